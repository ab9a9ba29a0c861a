import Derived.Test.YtannfbpohhnnkaaGreatDoorG16
import Derived.Test.YtannfbpohhnnkaaGreatDoorG13
namespace Go.Proofs.YtannfbpohhnnkaaGreatDoor
set_option maxHeartbeats 16000000
set_option maxRecDepth 100000
open Go.RowKit
def emk(k:Nat):Ent:=⟨mk k,mk (k+1),((k+2:Nat):Int),decide ((k+3) % 3=0)⟩
def zar(k n:Nat):List Ent:=(List.range n).map fun i=>emk (k+4*i)
theorem zam(k n:Nat):(zar k n).length=n:=by simp[zar]
theorem zk0(k n:Nat):zar k (n+1)=zar k n++[emk (k+4*n)]:=by simp[zar,List.range_succ]
theorem znM(k n i:Nat)(h:i<n):nth (zar k n) i=emk (k+4*i):=by
 rw[zE (by rw[zam];exact h)];simp[zar]
theorem znz(k i:Nat)(bs:List Ent)(h:i<bs.length):(zar k i++bs.drop i).set i (emk (k+4*i))=zar k (i+1)++bs.drop (i+1):=by
 rw[zk0,List.set_append_right _ _ (by rw[zam];omega),zam,Nat.sub_self,List.drop_eq_getElem_cons h,List.set_cons_zero];simp
theorem zet{w wr w1:World}{g:Nat}{u:Value}{j:Nat}(hg:w.grownBy wr (some g))(hb:Below wr.heap.size wr w1):w.grownBy (w1.setCell ⟨g,j,none⟩ u) (some g) :=
 ⟨hb.os.trans hg.os,hb.tape.trans hg.tape,hb.output.trans hg.output,by have:=hg.size;have:=hb.size;simp;omega,fun k hk hr=>by
  rw[heap_setCell_other w1 ⟨g,j,none⟩ k u (fun e=>hr (by simp[e])),hb.block k (by have:=hg.size;omega)];exact hg.block k hk hr⟩
theorem zfU{w w1:World}{g:Nat}{u:Value}{j:Nat}(hg:w.grownBy w1 (some g)):w.grownBy (w1.setCell ⟨g,j,none⟩ u) (some g):=zet hg (Below.refl _ _)
theorem zf4(a:World)(row:Option Nat):a.grownBy a row:=⟨rfl,rfl,rfl,Nat.le_refl _,fun _ _ _=>rfl⟩
theorem zor(v:Value)(bs:List Ent)(base k:Nat)(w:World)(hk0:0<k)(hk:k+4*bs.length≤4194305)(hown:OwnE w base v bs) :
 Calls Tryz.prog 80 #[v,.int .i64 k] w fun e w'=>e=.returned (.int .i64 ((k+4*bs.length:Nat):Int))∧OwnE w' base v (zar k bs.length)∧w.grownBy w' v.ownBlock:=by
 obtain⟨g,cap,hv⟩ | ⟨hv,h0⟩:(∃ g cap,v=.slice (some ⟨g,0,none⟩) bs.length cap)∨(v=.slice none 0 0∧bs=[]):=by
  rcases hown.2 with ⟨rfl,h0⟩ | ⟨g,cap,cur,rfl,_⟩
  ·exact .inr ⟨rfl,List.length_eq_zero_iff.1 h0⟩
  ·exact .inl ⟨g,cap,rfl⟩
 ·subst hv;go_enter Tryz.func80,Tryz.ntmps80
  go_wp2;go_loopw [1,5] (fun kk i wr=>∃ j:Nat,j≤bs.length∧i=.int .i64 j∧kk=.int .i64 ((k:Int)+4*(j:Int))∧OwnE wr base (.slice (some ⟨g,0,none⟩) bs.length cap) (zar k j++bs.drop j)∧w.grownBy wr (some g)) (fun _ i _=>bs.length-(intOf i).toNat)
  case atStart=>exact⟨0,Nat.zero_le _,rfl,by simp,by simpa [zar] using hown,zf4 _ _⟩
  case round =>
   obtain⟨j,hj,rfl,rfl,ho,hg⟩:=hrel;have hlen:(zar k j++bs.drop j).length=bs.length:=by simp[zam];omega
   by_cases hlt:j<bs.length
   ·skip
    go_wp2_with fail
    refine(zaA _ (k+4*j) _ (by omega) (by omega) (by omega)).mono ?_;rintro e1 w1 ⟨rfl,hb1⟩;have ho1:w1.ownsRow base 94 4 (.slice (some ⟨g,0,none⟩) bs.length cap) bs.length (EV (zar k j++bs.drop j)):=by have h:=ho.below hb1;unfold OwnE at h;rwa [hlen] at h
    have d0:=(zdn ho1 hlen.symm j hlt).1;have f0:=ho1.frozenAt (j*4);have R1:=zdS ho1 (k:=j) (j:=0) (by omega) (by omega) (u:=.string (mk (k+4*j))) (e':={ nth (zar k j++bs.drop j) j with key:=mk (k+4*j) }) rfl;have G1:w.grownBy (w1.setCell ⟨g,j*4,none⟩ (.string (mk (k+4*j)))) (some g):=zet hg hb1;obtain⟨x,hx⟩:∃ x,x=nth (zar k j++bs.drop j) j:=⟨_,rfl⟩;rw[← hx] at R1;have HX:Hid (x=nth (zar k j++bs.drop j) j):=hx;have H1:Hid (World.ownsRow _ _ _ _ _ _ _):=R1;clear ho ho1 hg hb1 R1 hx;go_wp2_with fail
    refine(zaA _ (k+4*j+1) _ (by omega) (by omega) (by omega)).mono ?_;rintro e2 w2 ⟨rfl,hb2⟩;have ho2:=zaB H1.out hb2;have l2:((zar k j++bs.drop j).set j { x with key:=mk (k+4*j) }).length=bs.length:=by rw[List.length_set];exact hlen
    have d1:=(zdn ho2 l2.symm j hlt).2.1;have f1:=ho2.frozenAt (j*4+1);have R2:=zdS ho2 (k:=j) (j:=1) (by omega) (by omega) (u:=.string (mk (k+4*j+1))) (e':={ x with key:=mk (k+4*j),val:=mk (k+4*j+1) }) (by rw[zc8 (by omega)];rfl);rw[List.set_set] at R2;have G2:w.grownBy (w2.setCell ⟨g,j*4+1,none⟩ (.string (mk (k+4*j+1)))) (some g):=zet G1 hb2;have l3:((zar k j++bs.drop j).set j { x with key:=mk (k+4*j),val:=mk (k+4*j+1) }).length=bs.length:=by rw[List.length_set];exact hlen
    have d2:=(zdn R2 l3.symm j hlt).2.2.1;have f2:=R2.frozenAt (j*4+2);have R3:=zdS R2 (k:=j) (j:=2) (by omega) (by omega) (u:=.int .i64 ((k:Int)+4*(j:Int)+1+1)) (e':={ x with key:=mk (k+4*j),val:=mk (k+4*j+1),seq:=(k:Int)+4*(j:Int)+1+1 }) (by rw[zc8 (by omega)];rfl);rw[List.set_set] at R3;have l4:((zar k j++bs.drop j).set j { x with key:=mk (k+4*j),val:=mk (k+4*j+1),seq:=(k:Int)+4*(j:Int)+1+1 }).length=bs.length:=by rw[List.length_set];exact hlen
    have d3:=(zdn R3 l4.symm j hlt).2.2.2;have f3:=R3.frozenAt (j*4+3);have R4:=zdS R3 (k:=j) (j:=3) (by omega) (by omega) (u:=.bool (((k:Int)+4*(j:Int)+1+1+1) % 3==0)) (e':=emk (k+4*j)) (by
     rw[zc8 (by omega)];have e2:(((k:Int)+4*(j:Int)+1+1+1) % 3==0)=decide ((k+4*j+3) % 3=0):=by rw[Bool.eq_iff_iff,beq_iff_eq,decide_eq_true_eq];omega
     show [Value.string (mk (k+4*j)),Value.string (mk (k+4*j+1)),Value.int .i64 ((k:Int)+4*(j:Int)+1+1),Value.bool (((k:Int)+4*(j:Int)+1+1+1) % 3==0)]=EC (emk (k+4*j));have e1:(k:Int)+4*(j:Int)+1+1=((k+4*j+2:Nat):Int):=by omega
     rw[e2,e1];rfl)
    rw[List.set_set,znz k j bs hlt] at R4;have H4:Hid (World.ownsRow _ _ _ _ _ _ _):=R4;clear ho2 R2 R3 R4 H1 G1 hb2;go_wp2;go_roundw
    case rel =>
     have hl5:(zar k (j+1)++bs.drop (j+1)).length=bs.length:=by simp[zam];omega
     exact⟨j+1,by omega,by go_num,by go_num,by unfold OwnE;rw[hl5];exact H4.out,zfU (zfU G2)⟩
    case measure=>simp[intOf];omega
   ·have hje:j=bs.length:=by omega
    subst hje;go_wp2;go_ret;exact⟨zcT (by omega),by simpa using ho,hg⟩
 ·subst hv;subst h0;go_enter Tryz.func80,Tryz.ntmps80
  go_wp2;refine wp_loop_rounds 1 ?_;rw[rounds_succ];go_wp2;go_ret;exact⟨rfl,hown,zf4 _ _⟩
theorem zos(v:Value)(n k:Nat)(w:World)(hk0:0<k)(hk:k+4*n≤4194305)(hr:RdE w v (zar k n)) :
 Calls Tryz.prog 83 #[v,.int .i64 k] w fun e w'=>e=.returned (.int .i64 ((k+4*n:Nat):Int))∧Below w.heap.size w w':=by
 obtain⟨a,cap,hv,hl,hm,_⟩:=id hr;rw[zam] at hv hl;unfold maxLen at hm;subst hv;go_enter Tryz.func83,Tryz.ntmps83
 go_wp2;go_loopw [1,5] (fun kk i wr=>∃ j:Nat,j≤n∧i=.int .i64 j∧kk=.int .i64 ((k:Int)+4*(j:Int))∧Below w.heap.size w wr) (fun _ i _=>n-(intOf i).toNat)
 case atStart=>exact⟨0,Nat.zero_le _,rfl,by simp,Below.refl _ _⟩
 case round =>
  obtain⟨j,hj,rfl,rfl,hb⟩:=hrel;by_cases hlt:j<n
  ·obtain⟨b,off,rfl,hc⟩:=(hr.below hb).at (zam k n).symm j (by rw[zam];exact hlt);rw[znM k n j hlt] at hc;have hl2:=hc.lt;have hjl:(j:Int)<(n:Int):=by omega
   have hse:(((k+4*j+2:Nat):Int))=(k:Int)+4*(j:Int)+1+1:=by omega
   have hgo:decide ((k+4*j+3) % 3=0)=(((k:Int)+4*(j:Int)+1+1+1) % 3==0):=by rw[Bool.eq_iff_iff,beq_iff_eq,decide_eq_true_eq];omega
   obtain⟨c0,c1,c2,c3⟩:=hc;change _=some (Value.string (mk (k+4*j))) at c0;change _=some (Value.string (mk (k+4*j+1))) at c1;change _=some (Value.int .i64 ((k+4*j+2:Nat):Int)) at c2;change _=some (Value.bool (decide ((k+4*j+3) % 3=0))) at c3;rw[hse] at c2;rw[hgo] at c3;clear hse hgo;have hne:(((k:Int)+4*(j:Int)+1+1) != ((k:Int)+4*(j:Int)+1+1))=false:=by simp
   have hnb:((((k:Int)+4*(j:Int)+1+1+1) % 3==0) != (((k:Int)+4*(j:Int)+1+1+1) % 3==0))=false:=by simp
   go_wp2_with fail
   refine wp_region_noPanic ?_;refine wp_region_held_drew (S:=fun w'=>w'.cell? ⟨b,off+j*4,none⟩=some (.string (mk (k+4*j)))) (by kernel_rfl) c0 (fun hH=>?_);refine kA 0 12 hH ?_;refine kA 1 13 hH ?_;refine kA 2 14 hH ?_;refine kA 3 15 hH ?_;refine kA 4 16 hH ?_;refine kA 5 17 hH ?_;refine rdy 6 (fun K hK=>?_);go_simp;refine(zaA _ (k+4*j) _ (by omega) (by omega) (by omega)).mono ?_;rintro e w1 ⟨rfl,hb1⟩;obtain⟨q1,_⟩:=bcell hb1;refine hK.out _ _ ((q1 _ _ hl2).trans c0) (fun hA=>?_);clear hK K;try simp only[Act.put,sA,sZ,sS]
   refine kA 7 19 hA ?_;refine dne ?_;have d1:w1.cell? ⟨b,off+j*4+1,none⟩=some (.string (mk (k+4*j+1))):=(q1 _ _ hl2).trans c1;have d2:w1.cell? ⟨b,off+j*4+2,none⟩=some (.int .i64 ((k:Int)+4*(j:Int)+1+1)):=(q1 _ _ hl2).trans c2;have d3:w1.cell? ⟨b,off+j*4+3,none⟩=some (.bool (((k:Int)+4*(j:Int)+1+1+1) % 3==0)):=(q1 _ _ hl2).trans c3;have b1:=hb.drew.trans (hb1.mono hb.size);have hl3:=World.block_lt_of_cell? w1 _ d1;clear hH hA hb hb1 q1 c0 c1 c2 c3;go_wp2_with fail
   refine wp_region_noPanic ?_;refine wp_region_held_drew (S:=fun w'=>w'.cell? ⟨b,off+j*4+1,none⟩=some (.string (mk (k+4*j+1)))) (by kernel_rfl) d1 (fun hH=>?_);refine kA 0 22 hH ?_;refine kA 1 23 hH ?_;refine kA 2 24 hH ?_;refine kA 3 25 hH ?_;refine kA 4 26 hH ?_;refine kA 5 27 hH ?_;refine rdy 6 (fun K hK=>?_);go_simp;refine(zaA _ (k+4*j+1) _ (by omega) (by omega) (by omega)).mono ?_;rintro e w2 ⟨rfl,hb2⟩;obtain⟨q2,_⟩:=bcell hb2;refine hK.out _ _ ((q2 _ _ hl3).trans d1) (fun hA=>?_);clear hK K;try simp only[Act.put,sA,sZ,sS]
   refine kA 7 29 hA ?_;refine dne ?_;have e2:w2.cell? ⟨b,off+j*4+2,none⟩=some (.int .i64 ((k:Int)+4*(j:Int)+1+1)):=(q2 _ _ hl3).trans d2;have e3:w2.cell? ⟨b,off+j*4+3,none⟩=some (.bool (((k:Int)+4*(j:Int)+1+1+1) % 3==0)):=(q2 _ _ hl3).trans d3;have b2:=b1.drew.trans (hb2.mono b1.size);clear hH hA b1 hb2 q2 d1 d2 d3;go_wp2;go_roundw
   case rel=>exact⟨j+1,by omega,by go_num,by go_num,b2⟩
   case measure=>simp[intOf];omega
  ·have hje:j=n:=by omega
   subst hje;go_wp2;go_ret;exact⟨zcT (by omega),hb⟩
open Go.RowKit
theorem zj2{es:List Ent}{q:Int}{i:Nat}(h:i=0)(hq:(nth es i).seq≤q):zaa es q i=true:=by simp[zaa,h] at *;exact hq
theorem zlG{es:List Ent}{q:Int}{i:Nat}(h:kEq (nth es (i-1)).key (nth es i).key=false)(hq:(nth es i).seq≤q):zaa es q i=true:=by simp[zaa,h,hq]
theorem zlv{es:List Ent}{q:Int}{i:Nat}(h0:i≠0)(h:kEq (nth es (i-1)).key (nth es i).key=true)(hq:(nth es i).seq≤q):zaa es q i=decide (q<(nth es (i-1)).seq):=by simp[zaa,h,hq,h0]
theorem znL(v:Value)(es:List Ent)(i:Nat)(q:Int)(w:World)(hr:RdE w v es)(hi:i<es.length) :
 Calls Tryz.prog 215 #[v,.int .i64 i,.int .i64 q] w fun e w'=>e=.returned (.bool (zaa es q i))∧∃ n,w'=w.drewN n:=by
 obtain⟨a,cap,hv,hl,hm,_⟩:=id hr;unfold maxLen at hm;subst hv;obtain⟨b,off,rfl,hc⟩:=hr.at rfl i hi;obtain⟨x,hx⟩:∃ x,x=nth es i:=⟨_,rfl⟩;rw[← hx] at hc;have HX:Hid (x=nth es i):=hx;clear hx;obtain⟨c0,c1,c2,c3⟩:=id hc;by_cases hq:q<x.seq
 ·have RES:Hid (zaa es q i=false):=by
   unfold Hid zaa;rw[← HX.out,decide_eq_false (by omega),Bool.false_and]
  go_enter Tryz.func215,Tryz.ntmps215
  go_wp2;go_ret;exact⟨zF RES.out.symm,0,rfl⟩
 ·have hq2:x.seq≤q:=by omega
  by_cases hi0:i=0
  ·skip
   have RES:Hid (zaa es q i=true):=zj2 hi0 (by rw[← HX.out];exact hq2);have hi1:((i:Int)==0)=true:=by simpa using hi0
   clear hi0;go_enter Tryz.func215,Tryz.ntmps215
   go_wp2_with fail
   refine wp_region_noPanic ?_;refine wp_region_held_drew (S:=fun w'=>EntAt w' b (off+i*4) x) (by kernel_rfl) hc (fun hH=>?_);refine kA 0 14 hH ?_;refine kA 1 15 hH ?_;refine kA 2 16 hH ?_;refine kS 3 17 hH ?_;refine kS 4 18 hH ?_;refine kS 5 19 hH ?_;refine kS 6 20 hH ?_;refine kS 7 21 hH ?_;refine kS 8 22 hH ?_;refine kS 9 23 hH ?_;refine kS 10 24 hH ?_;refine kS 11 25 hH ?_;refine kS 12 26 hH ?_;refine kS 13 27 hH ?_;refine kS 14 28 hH ?_;refine kA 15 29 hH ?_;refine kA 16 30 hH ?_;refine kS 17 31 hH ?_;refine kS 18 32 hH ?_;refine kS 19 33 hH ?_;refine kS 20 34 hH ?_;refine kS 21 35 hH ?_;refine kS 22 36 hH ?_;refine kS 23 37 hH ?_;refine kS 24 38 hH ?_;refine kA 25 39 hH ?_;refine kA 26 6 hH ?_;refine dne ?_;go_wp2;go_ret;exact⟨zF RES.out.symm,1,rfl⟩
  ·obtain⟨b2,off2,ha2,hd⟩:=hr.at rfl (i-1) (by omega);simp only[Option.some.injEq,Addr.mk.injEq] at ha2;obtain⟨rfl,rfl,_⟩:=ha2;obtain⟨y,hy⟩:∃ y,y=nth es (i-1):=⟨_,rfl⟩;rw[← hy] at hd;have HY:Hid (y=nth es (i-1)):=hy;clear hy;obtain⟨j,hj⟩:∃ j,j=i-1:=⟨i-1,rfl⟩;rw[← hj] at hd;have hkj:(i:Int)-1=(j:Int):=by omega
   have hj0:(0:Int)≤(j:Int):=by omega
   have hjn:j<es.length:=by omega
   have hwr:IntKind.i64.wrap (j:Int)=(j:Int):=by rw[IntKind.wrap_i64];omega
   have hi1:((i:Int)==0)=false:=by simpa using hi0
   have HI0:Hid (i≠0):=hi0;have KB:=zcb y.key x.key;clear hj hi0;cases hke:kEq y.key x.key with
   | false =>
    rw[hke] at KB;have RES:Hid (zaa es q i=true):=zlG (by rw[← HX.out,← HY.out];exact hke) (by rw[← HX.out];exact hq2);go_enter Tryz.func215,Tryz.ntmps215
    go_wp2_with fail
    refine wp_region_noPanic ?_;refine wp_region_held_drew (S:=fun w'=>EntAt w' b (off+i*4) x∧EntAt w' b (off+j*4) y) (by kernel_rfl) ⟨hc,hd⟩ (fun hH=>?_);refine kA 0 14 hH ?_;refine kA 1 15 hH ?_;refine kA 2 16 hH ?_;refine kA 3 17 hH ?_;refine kA 4 18 hH ?_;refine kA 5 19 hH ?_;refine kA 6 20 hH ?_;refine kA 7 21 hH ?_;refine kA 8 22 hH ?_;refine kA 9 23 hH ?_;refine kA 10 24 hH ?_;refine kA 11 25 hH ?_;refine kA 12 26 hH ?_;refine kA 13 27 hH ?_;refine kA 14 28 hH ?_;refine kA 15 29 hH ?_;refine kA 16 30 hH ?_;refine kS 17 31 hH ?_;refine kS 18 32 hH ?_;refine kS 19 33 hH ?_;refine kS 20 34 hH ?_;refine kS 21 35 hH ?_;refine kS 22 36 hH ?_;refine kS 23 37 hH ?_;refine kS 24 38 hH ?_;refine kA 25 39 hH ?_;refine kA 26 6 hH ?_;refine dne ?_;go_wp2;go_ret;exact⟨zF RES.out.symm,1,rfl⟩
   | true =>
    rw[hke] at KB;have RES:Hid (zaa es q i=decide (q<y.seq)):=by
     have h:=zlv HI0.out (q:=q) (es:=es) (by rw[← HX.out,← HY.out];exact hke) (by rw[← HX.out];exact hq2);rw[← HY.out] at h;exact h
    go_enter Tryz.func215,Tryz.ntmps215
    go_wp2_with fail
    refine wp_region_noPanic ?_;refine wp_region_held_drew (S:=fun w'=>EntAt w' b (off+i*4) x∧EntAt w' b (off+j*4) y) (by kernel_rfl) ⟨hc,hd⟩ (fun hH=>?_);refine kA 0 14 hH ?_;refine kA 1 15 hH ?_;refine kA 2 16 hH ?_;refine kA 3 17 hH ?_;refine kA 4 18 hH ?_;refine kA 5 19 hH ?_;refine kA 6 20 hH ?_;refine kA 7 21 hH ?_;refine kA 8 22 hH ?_;refine kA 9 23 hH ?_;refine kA 10 24 hH ?_;refine kA 11 25 hH ?_;refine kA 12 26 hH ?_;refine kA 13 27 hH ?_;refine kA 14 28 hH ?_;refine kA 15 29 hH ?_;refine kA 16 30 hH ?_;refine kA 17 31 hH ?_;refine kA 18 32 hH ?_;refine kA 19 33 hH ?_;refine kA 20 34 hH ?_;refine kA 21 35 hH ?_;refine kA 22 36 hH ?_;refine kA 23 37 hH ?_;refine kA 24 38 hH ?_;refine kA 25 39 hH ?_;refine kA 26 6 hH ?_;refine dne ?_;go_wp2;go_ret;exact⟨zF RES.out.symm,1,rfl⟩
open Go.RowKit
theorem zmc(v:Value)(es:List Ent)(i j:Nat)(x y:Int)(w:World)(hx:x=(i:Int))(hy:y=(j:Int))(hr:RdE w v es)(hij:i≤j)(hj:j≤es.length) :
 Calls Tryz.prog 197 #[v,.int .i64 x,.int .i64 y] w fun e w'=>∃ u,e=.returned u∧(∀ W,RdE W v es→RdE W u ((es.take j).drop i))∧w'=w:=by
 subst hx;subst hy;exact zpD v es i j w hr hij hj
def OwnP(w:World)(base:Nat)(v:Value)(ps:List (Value×List Ent)):Prop:=w.ownsRow base 31 1 v ps.length (ps.map (·.1))
theorem OwnP.pieces{w:World}{base:Nat}{v:Value}{ps:List (Value×List Ent)}(h:OwnP w base v ps)(hp:∀ p∈ps,RdE w p.1 p.2):Pieces w v ps:=by
 have h':=h;rcases h.2 with ⟨rfl,h0⟩ | ⟨g,cap,cur,rfl,hb,hg,hn,hc,hs,ht⟩
 ·exact .inl ⟨rfl,List.length_eq_zero_iff.1 h0⟩
 ·refine .inr ⟨g,0,cap,rfl,hn,hc,fun i hi=>⟨?_,hp _ (List.getElem_mem hi)⟩⟩;have:=World.ownsRow.cellAt h' i (by omega);rw[Nat.zero_add,this];simp[hi]
theorem OwnP.below{w w':World}{base:Nat}{v:Value}{ps:List (Value×List Ent)}(h:OwnP w base v ps)(hb:Below w.heap.size w w'):OwnP w' base v ps:=zaB h hb
theorem OwnP.mono{w:World}{base base':Nat}{v:Value}{ps:List (Value×List Ent)}(h:OwnP w base v ps)(hb:base'≤base):OwnP w base' v ps:=by
 refine⟨h.1,?_⟩;rcases h.2 with h2 | ⟨g,cap,cur,hv,hg,r⟩
 ·exact .inl h2
 ·exact .inr ⟨g,cap,cur,hv,Nat.le_trans hb hg,r⟩
theorem zqg(w:World):OwnP (w.alloc (.cells #[] 31)) w.heap.size (.slice (some ⟨w.heap.size,0,none⟩) 0 0) []:=World.ownsRow_lit w #[] 0 (Nat.le_refl _) (Nat.zero_le _) rfl
theorem zpy{w1:World}{B:Nat}{v':Value}{ps:List (Value×List Ent)}{u:Value}{zs:List Ent}(h:w1.ownsRow B 31 1 v' (ps.length+1) (ps.map (·.1)++[u])):OwnP w1 B v' (ps++[(u,zs)]):=by
 unfold OwnP;rw[List.map_append,List.length_append];exact h
theorem one_newP(w:World)(x:Value)(t:TypeId):∀ j u,[x][j]? = some u→(w.alloc (.cells #[x] t)).cell? ((⟨w.heap.size,0,none⟩:Addr).add j)=some u:=by
 intro j u hj;match j,hj with
 | 0,hj=>simp at hj;subst hj;simp[Addr.add]
theorem znE(w:World)(x:Value)(t:TypeId)(n:Nat)(hn:n=w.heap.size):∀ j u,[x][j]? = some u→(w.alloc (.cells #[x] t)).cell? ((⟨n,0,none⟩:Addr).add j)=some u:=by
 subst hn;exact one_newP w x t
theorem zkf(v:Value)(es:List Ent)(i:Nat)(q:Int)(s:Bool)(w:World)(hr:RdE w v es)(hi:i<es.length)(hs:zaa es q i=s) :
 Calls Tryz.prog 215 #[v,.int .i64 i,.int .i64 q] w fun e w'=>e=.returned (.bool s)∧∃ n,w'=w.drewN n:=by
 subst hs;exact znL v es i q w hr hi
theorem zoe(ps:List (Value×List Ent))(u:Value)(zs:List Ent):joinE (ps++[(u,zs)])=joinE ps++zs:=by simp[joinE]
def nxt(out:List Ent)(x:Ent):List Ent:=if out.length=0∨zz (nth out (out.length-1)) x=false then out++[x] else out
def rest(hs1:List Src)(v:Value)(r:List Ent)(no:Nat):List Src:=if r.length=0 then hs1 else hs1++[⟨v,r,no⟩]
theorem zmI{hs1:List Src}{v:Value}{r:List Ent}{no:Nat}{s:Src}(h:s∈rest hs1 v r no):s∈hs1∨(s=⟨v,r,no⟩∧r≠[]):=by
 unfold rest at h;split at h
 ·exact .inl h
 ·rename_i hr;rcases List.mem_append.1 h with h | h
  ·exact .inl h
  ·exact .inr ⟨List.mem_singleton.1 h,fun e=>hr (by rw[e];rfl)⟩
theorem zmu{hs1:List Src}{v:Value}{r:List Ent}{no:Nat}{s:Src}(h:s∈hs1):s∈rest hs1 v r no:=by
 unfold rest;split
 ·exact h
 ·exact List.mem_append_left _ h
theorem zmw{hs1:List Src}{v:Value}{r:List Ent}{no:Nat}(h:r≠[]):(⟨v,r,no⟩:Src)∈rest hs1 v r no:=by
 unfold rest;split
 ·rename_i e;exact absurd (List.eq_nil_of_length_eq_zero e) h
 ·simp
theorem zmX{out:List Ent}(h:0<out.length):nth out (out.length-1)∈out:=by rw[zE (by omega)];exact List.getElem_mem _
theorem sr_last{out:List Ent}(h:Sr out){o:Ent}(ho:o∈out):o=nth out (out.length-1)∨ahd o (nth out (out.length-1))=true:=by
 obtain⟨i,hi,rfl⟩:=List.getElem_of_mem ho;by_cases he:i=out.length-1
 ·left;subst he;rw[zE (by omega)]
 ·right
  rw[zE (show out.length-1<out.length by omega)];exact List.pairwise_iff_getElem.1 h i (out.length-1) hi (by omega) (by omega)
theorem zrc{ls:List (List Ent)}{hs hs1 hs2:List Src}{P:List (Ent×Nat)}{out:List Ent}{s0:Src}{v:Value}{x:Ent}{r:List Ent}(h:Told ls hs P out)(hp:hs.Perm (s0::hs1))(hx:s0.es=x::r)
 (hmin:∀ s∈hs,lessS s s0=false) (hp2:hs2.Perm (rest hs1 v r s0.no)):Told ls hs2 ((x,s0.no)::P) (nxt out x):=by
 have h0:s0∈hs:=hp.mem_iff.2 List.mem_cons_self;have h1:∀ s,s∈hs1→s∈hs:=fun s hs=>hp.mem_iff.2 (List.mem_cons_of_mem _ hs)
 have hm2:∀ s,s∈hs2→s∈hs1∨(s=⟨v,r,s0.no⟩∧r≠[]):=fun s hs=>zmI (hp2.mem_iff.1 hs)
 have hn:(s0.no::hs1.map Src.no).Nodup:=(hp.map Src.no).nodup_iff.1 h.apart;have hn':=List.nodup_cons.1 hn;obtain⟨_,hsr0,l0,hl0,hml0⟩:=h.left s0 h0;rw[hx] at hsr0 hml0;have hsr:=List.pairwise_cons.1 hsr0;have hxh:s0.hd=x:=by unfold Src.hd;rw[hx,zbs]
 have hP:∀ p∈P,ltT p.1 p.2 x s0.no=true:=fun p hp=>h.ahead p hp s0 h0 x (by rw[hx];exact List.mem_cons_self)
 have hO:∀ o∈out,ahd o x=true∨zz o x=true:=fun o ho=>by
  obtain⟨j,hj,_⟩:=h.first o ho;have:=(zck _ _ _ _).1 (hP _ hj);rcases this with e | e
  ·exact .inl e
  ·exact .inr e.1
 have base:∀ out',Sr out'→(∀ o∈out',∃ j,(o,j)∈(x,s0.no)::P∧∀ p∈(x,s0.no)::P,zz p.1 o=true→j≤p.2)→(∀ p∈(x,s0.no)::P,∃ o∈out',zz o p.1=true)→Told ls hs2 ((x,s0.no)::P) out':=by
  intro out' g1 g2 g3;refine⟨fun s hs=>?_,?_,fun p hp'=>?_,fun i l e hl he=>?_,fun p hp' s hs e he=>?_,g1,g2,g3⟩
  ·rcases hm2 s hs with hs | ⟨rfl,hr⟩
   ·exact h.left s (h1 s hs)
   ·exact⟨hr,hsr.2,l0,hl0,fun e he=>hml0 e (List.mem_cons_of_mem _ he)⟩
  ·rw[(hp2.map Src.no).nodup_iff];unfold rest;split
   ·exact hn'.2
   ·rw[List.map_append,List.nodup_append];refine⟨hn'.2,by simp,fun a ha b hb=>?_⟩;simp at hb;subst hb;intro e;subst e;exact hn'.1 ha
  ·rcases List.mem_cons.1 hp' with rfl | hp'
   ·exact⟨l0,hl0,hml0 x List.mem_cons_self⟩
   ·exact h.part p hp'
  ·rcases h.all i l e hl he with hp' | ⟨s,hs,hno,hes⟩
   ·exact .inl (List.mem_cons_of_mem _ hp')
   ·rcases List.mem_cons.1 (hp.mem_iff.1 hs) with rfl | hs
    ·rw[hx] at hes;rcases List.mem_cons.1 hes with rfl | her
     ·rw[← hno];exact .inl List.mem_cons_self
     ·have hr:r≠[]:=fun e=>by rw[e] at her;cases her
      exact .inr ⟨_,hp2.mem_iff.2 (zmw hr),hno,her⟩
    ·exact .inr ⟨s,hp2.mem_iff.2 (zmu hs),hno,hes⟩
  ·rcases List.mem_cons.1 hp' with rfl | hp'
   ·rcases hm2 s hs with hs | ⟨rfl,hr⟩
    ·have hne:s.no≠s0.no:=fun e=>hn'.1 (by rw[← e];exact List.mem_map_of_mem hs)
     have hlt:ltT x s0.no s.hd s.no=true:=by
      rcases zpE x s0.no s.hd s.no with k | k | k
      ·exact k
      ·have:=hmin s (h1 s hs);unfold lessS at this;rw[hxh,k] at this;cases this
      ·exact absurd k.2.symm hne
     obtain⟨hne',hss,_⟩:=h.left s (h1 s hs);cases hse:s.es with
     | nil=>exact absurd hse hne'
     | cons y t =>
      have hyh:s.hd=y:=by unfold Src.hd;rw[hse,zbs]
      rw[hse] at he hss;rw[hyh] at hlt;rcases List.mem_cons.1 he with rfl | he
      ·exact hlt
      ·have:=(List.pairwise_cons.1 hss).1 e he;exact zhk hlt ((zck _ _ _ _).2 (.inl this))
    ·exact(zck _ _ _ _).2 (.inl (hsr.1 e he))
   ·rcases hm2 s hs with hs | ⟨rfl,hr⟩
    ·exact h.ahead p hp' s (h1 s hs) e he
    ·exact h.ahead p hp' s0 h0 e (by rw[hx];exact List.mem_cons_of_mem _ he)
 unfold nxt;split
 ·rename_i hc;have hno:∀ o∈out,zz o x=false:=fun o ho=>by
   cases hk:zz o x with
   | false=>rfl
   | true =>
    exfalso;have hlen:0<out.length:=List.length_pos_of_mem ho;rcases hc with hc | hc
    ·omega
    ·rcases sr_last h.sorted ho with e | e
     ·rw[← e,hk] at hc;cases hc
     ·rcases hO _ (zmX hlen) with k | k
      ·exact zbj (zaD e k) hk
      ·rw[k] at hc;cases hc
  refine base _ ?_ (fun o ho=>?_) (fun p hp'=>?_)
  ·unfold Sr;rw[List.pairwise_append];refine⟨h.sorted,by simp,fun a ha b hb=>?_⟩;rw[List.mem_singleton.1 hb];rcases hO a ha with k | k
   ·exact k
   ·rw[hno a ha] at k;cases k
  ·rcases List.mem_append.1 ho with ho | ho
   ·obtain⟨j,hj,hf⟩:=h.first o ho;refine⟨j,List.mem_cons_of_mem _ hj,fun p hp' hk=>?_⟩;rcases List.mem_cons.1 hp' with rfl | hp'
    ·have:=hno o ho;rw[zap hk] at this;cases this
    ·exact hf p hp' hk
   ·rw[List.mem_singleton.1 ho];refine⟨s0.no,List.mem_cons_self,fun p hp' hk=>?_⟩;rcases List.mem_cons.1 hp' with rfl | hp'
    ·exact Nat.le_refl _
    ·obtain⟨o',ho',hk'⟩:=h.has p hp';have:=hno o' ho';rw[zbW hk' hk] at this;cases this
  ·rcases List.mem_cons.1 hp' with rfl | hp'
   ·exact⟨x,by simp,zen x⟩
   ·obtain⟨o',ho',hk'⟩:=h.has p hp';exact⟨o',List.mem_append_left _ ho',hk'⟩
 ·rename_i hc;have hlen:0<out.length:=Nat.pos_of_ne_zero (fun e=>hc (.inl e));have hk:zz (nth out (out.length-1)) x=true:=by
   cases e:zz (nth out (out.length-1)) x with
   | true=>rfl
   | false=>exact absurd (.inr e) hc
  refine base _ h.sorted (fun o ho=>?_) (fun p hp'=>?_)
  ·obtain⟨j,hj,hf⟩:=h.first o ho;refine⟨j,List.mem_cons_of_mem _ hj,fun p hp' hk2=>?_⟩;rcases List.mem_cons.1 hp' with rfl | hp'
   ·have:=(zck _ _ _ _).1 (hP _ hj);rcases this with e | e
    ·exact(zbj e (zap hk2)).elim
    ·simp only at e ⊢;omega
   ·exact hf p hp' hk2
  ·rcases List.mem_cons.1 hp' with rfl | hp'
   ·exact⟨_,zmX hlen,hk⟩
   ·exact h.has p hp'
structure Start (ls:List (List Ent)) (k:Nat) (hs:List Src):Prop where
 left:∀ s∈hs,s.no<k∧ls[s.no]? = some s.es∧s.es≠[]
 apart:(hs.map Src.no).Nodup
 all:∀ (i:Nat) (l:List Ent),i<k→ls[i]? = some l→l≠[]→∃ s∈hs,s.no=i
theorem zoH(ls:List (List Ent)):Start ls 0 []:=⟨(fun s hs=>by cases hs),List.nodup_nil,(fun i l hi=>by omega)⟩
theorem zoa{ls:List (List Ent)}{k:Nat}{hs hs2:List Src}{v:Value}{l:List Ent}(h:Start ls k hs)(hl:ls[k]? = some l)(hp:hs2.Perm (rest hs v l k)):Start ls (k+1) hs2:=by
 have hm:∀ s,s∈hs2→s∈hs∨(s=⟨v,l,k⟩∧l≠[]):=fun s hs=>zmI (hp.mem_iff.1 hs)
 refine⟨fun s hs=>?_,?_,fun i m hi hm' hne=>?_⟩
 ·rcases hm s hs with hs | ⟨rfl,hr⟩
  ·have:=h.left s hs;exact⟨by omega,this.2⟩
  ·exact⟨by simp,hl,hr⟩
 ·rw[(hp.map Src.no).nodup_iff];unfold rest;split
  ·exact h.apart
  ·rw[List.map_append,List.nodup_append];refine⟨h.apart,by simp,fun a ha b hb=>?_⟩;simp at hb;subst hb;obtain⟨s,hs,rfl⟩:=List.mem_map.1 ha;have:=(h.left s hs).1;omega
 ·by_cases hik:i=k
  ·subst hik;rw[hl] at hm';obtain rfl:=Option.some.inj hm';exact⟨_,hp.mem_iff.2 (zmw hne),rfl⟩
  ·obtain⟨s,hs,hno⟩:=h.all i m (by omega) hm' hne;exact⟨s,hp.mem_iff.2 (zmu hs),hno⟩
theorem znU{ls:List (List Ent)}{hs:List Src}(hsr:∀ l∈ls,Sr l)(h:Start ls ls.length hs):Told ls hs [] []:=by
 refine⟨fun s hs=>?_,h.apart,(fun p hp=>by cases hp),fun i l e hl he=>?_,(fun p hp=>by cases hp),List.Pairwise.nil,(fun o ho=>by cases ho),(fun p hp=>by cases hp)⟩
 ·obtain⟨_,h1,h2⟩:=h.left s hs;exact⟨h2,hsr _ (List.mem_of_getElem? h1),s.es,h1,fun e he=>he⟩
 ·right
  have hil:i<ls.length:=(List.getElem?_eq_some_iff.1 hl).1;obtain⟨s,hs,hno⟩:=h.all i l hil hl (fun e'=>by rw[e'] at he;cases he);obtain⟨_,h1,_⟩:=h.left s hs;rw[hno,hl] at h1;obtain rfl:=Option.some.inj h1;exact⟨s,hs,hno,he⟩
end Go.Proofs.YtannfbpohhnnkaaGreatDoor
