import Derived.Test.YtjlnchhgkfnldaaGreatTreDrw4
import Derived.BigQuiet
namespace Go.Proofs.YtjlnchhgkfnldaaGreat
set_option maxHeartbeats 16000000
set_option maxRecDepth 100000
open Go.RowKit
def C3(B:Nat)(W:World)(b:Nat):Prop:=∃ t:ByteArray,t.size≤1000∧CellAt B W b 0 (.string ⟨#[]⟩)∧CellAt B W b 1 (.string ⟨#[107]⟩)∧CellAt B W b 2 (.string t)
theorem CellAt.bel{N:Nat}{W W':World}{b j:Nat}{v:Value}(h:CellAt N W b j v)(hb:Below W.heap.size W W'):CellAt N W' b j v :=
 ⟨by rw[hb.cell (p:=⟨b,j,none⟩) (World.block_lt_of_cell? W _ h.1)];exact h.1,h.2⟩
theorem C3.below{B b:Nat}{W W':World}(h:C3 B W b)(hb:Below W.heap.size W W'):C3 B W' b:=by
 obtain⟨t,h0,h1,h2,h3⟩:=h;exact⟨t,h0,h1.bel hb,h2.bel hb,h3.bel hb⟩
structure DW (w0 w w1 W:World) (g b5 B0:Nat) (X:TrX) (v:Value) (xs:List Wri):Prop where
 dc:DCur w0 W g
 bel:Below w.heap.size w W
 box:BoxTr W b5 X.vm X.vy X.vo X.seq X.vs
 res:BoxTr W w.heap.size (.slice none 0 0) (.slice none 0 0) (.slice none 0 0) 0 (.slice none 0 0)
 tch:Touch [g] w1 W
 bat:OwnW W B0 v xs
 sz:B0≤W.heap.size
 wg:w.heap.size<g
 gb:g<b5
 b1:b5=w1.heap.size
 b0:b5<B0
theorem DW.size{w0 w w1 W:World}{g b5 B0 N:Nat}{X:TrX}{v:Value}{xs:List Wri}(h:DW w0 w w1 W g b5 B0 X v xs)(_:N≤B0):B0≤W.heap.size:=h.sz
theorem DW.draw{w0 w w1 W W1:World}{g b5 B0 N:Nat}{X:TrX}{v:Value}{xs:List Wri}(h:DW w0 w w1 W g b5 B0 X v xs)(hg:W.grownBy W1 (some g))(hd:DCur w0 W1 g)(_:g<N)(_:N≤B0):DW w0 w w1 W1 g b5 B0 X v xs:=by
 have h1:=h.wg;have h2:=h.gb;have h3:=h.b0;exact⟨hd,h.bel.grown hg h.bel.size (fun k hk=>by have:=Option.some.inj hk;omega),(hg.block b5 h.box.lt (fun e=>by simp at e;omega)).trans h.box,(hg.block w.heap.size h.res.lt (fun e=>by simp at e;omega)).trans h.res,h.tch.trans (zer hg),zo3 h.bat hg (by omega),nT h.sz hg.size,h1,h2,h.b1,h3⟩
theorem DW.below{w0 w w1 W W1:World}{g b5 B0:Nat}{X:TrX}{v:Value}{xs:List Wri}(h:DW w0 w w1 W g b5 B0 X v xs)(hb:Below W.heap.size W W1):DW w0 w w1 W1 g b5 B0 X v xs :=
 ⟨h.dc.below hb,h.bel.trans (hb.mono h.bel.size),h.box.on hb,h.res.on hb,h.tch.trans (Touch.of_below hb),h.bat.below hb,nT h.sz hb.size,h.wg,h.gb,h.b1,h.b0⟩
theorem DW.app{w0 w w1 W W1:World}{g b5 B0 N:Nat}{X:TrX}{v v':Value}{xs xs':List Wri}(h:DW w0 w w1 W g b5 B0 X v xs)(hg:W.grownBy W1 v.ownBlock)(ho:OwnW W1 B0 v' xs')(_:N≤B0)(_:xs.length≤30):DW w0 w w1 W1 g b5 B0 X v' xs':=by
 have h1:=h.wg;have h2:=h.gb;have h3:=h.b0;have h4:=h.b1;have hb:∀ k,v.ownBlock=some k→B0≤k:=fun k hk=>(oL h.bat k hk).1
 refine⟨h.dc.grow hg (fun k hk=>by have:=hb k hk;omega),h.bel.grown hg h.bel.size (fun k hk=>by have:=hb k hk;omega),(hg.block b5 h.box.lt (fun e=>by have:=hb _ e.symm;omega)).trans h.box,(hg.block w.heap.size h.res.lt (fun e=>by have:=hb _ e.symm;omega)).trans h.res,?_,ho,nT h.sz hg.size,h1,h2,h.b1,h3⟩;exact⟨hg.os.trans h.tch.os,hg.tape.trans h.tch.tape,hg.output.trans h.tch.output,nT h.tch.size hg.size,fun k hk hn=>(hg.block k (Nat.lt_of_lt_of_le hk h.tch.size) (fun e=>by have:=hb k e.symm;omega)).trans (h.tch.block k hk hn)⟩
theorem DW.new{w0 w w1 W:World}{g b5 B0:Nat}{X:TrX}{v v':Value}{xs xs':List Wri}(h:DW w0 w w1 W g b5 B0 X v xs)(ho:OwnW W B0 v' xs'):DW w0 w w1 W g b5 B0 X v' xs':=⟨h.dc,h.bel,h.box,h.res,h.tch,ho,h.sz,h.wg,h.gb,h.b1,h.b0⟩
def DrawWP(w:World)(e:Ending)(w':World):Prop :=
 ∃ (X:TrX) (v:Value) (xs:List Wri),e=.returned (.tuple #[.agg #[X.vm,X.vy,X.vo,.int .i64 X.seq,X.vs],v])∧RdTr w' X∧FitTr X∧NilOk X.vy∧NilOk X.vo∧X.snaps.length≤7∧RdW w' v xs∧xs.length≤30∧(∀ x∈xs,ziO x)∧Below w.heap.size w w'
theorem DW.fin{w0 w w1 W:World}{g b5 B0 N:Nat}{X:TrX}{v:Value}{xs:List Wri}(h:DW w0 w w1 W g b5 B0 X v xs)(hst:∀ bs W',(∀ k∈bs,k<N)→Touch bs w1 W'→RdTr W' X)(hf:FitTr X∧NilOk X.vy∧NilOk X.vo∧X.snaps.length≤7)(hgN:g<N)(_:True)(hx:xs.length≤30∧∀ x∈xs,ziO x) :
 DrawWP w (.returned (.tuple #[.agg #[X.vm,X.vy,X.vo,.int .i64 X.seq,X.vs],v])) (put5 W w.heap.size X.vm X.vy X.vo (.int .i64 X.seq) X.vs):=by
 have h1:=h.wg;have h2:=h.gb;have h3:=h.b0;have ht:Touch [w.heap.size] W (put5 W w.heap.size X.vm X.vy X.vo (.int .i64 X.seq) X.vs):=touch_put5;refine⟨X,v,xs,rfl,hst [g,w.heap.size] _ (fun k hk=>?_) ((h.tch.more (by simp)).trans (ht.more (by simp))),hf.1,hf.2.1,hf.2.2.1,hf.2.2.2,?_,hx.1,hx.2,zR h.bel (nR _)⟩
 ·simp only[List.mem_cons,List.not_mem_nil,or_false] at hk;omega
 ·exact OwnW.rd (base:=B0) (zt h.bat (by omega))
open Go.RowKit
theorem zl6(v:Value)(bs:List UInt8)(w:World)(hr:Rd w v bs) :
 Calls Tryz.prog 5 #[v] w fun e w'=>e=.returned (.bool (decide (4096<(bs.length:Int))))∧w'=w:=by
 obtain⟨a,cap,rfl,hl,hm,_⟩:=hr;unfold maxLen at hm;go_enter Tryz.func5,Tryz.ntmps5
 go_wp2;go_ret;exact⟨rfl,rfl⟩
theorem zcM(va vb:Value)(bs:List Int)(w:World)(ha:RdI w va bs)(hb:RdI w vb bs) :
 Calls Tryz.prog 20 #[va,vb] w fun e w'=>e=.returned (.bool true)∧∃ q,w'=w.drewN q:=by
 obtain⟨aa,ca,rfl,hla,hma,-,hA⟩:=ha;obtain⟨ab,cb,rfl,hlb,hmb,-,hB⟩:=hb;unfold maxLen at hma hmb;have hne:((bs.length:Int) != (bs.length:Int))=false:=by simp
 rcases hA with rfl | ⟨ba,offa,rfl,hA⟩
 ·go_enter Tryz.func20,Tryz.ntmps20
  go_wp2;refine wp_loop_rounds 1 ?_;rw[rounds_succ];go_wp2;go_ret;exact⟨rfl,0,rfl⟩
 ·rcases hB with rfl | ⟨bb,offb,rfl,hB⟩
  ·go_enter Tryz.func20,Tryz.ntmps20
   go_wp2;refine wp_loop_rounds 1 ?_;rw[rounds_succ];go_wp2;go_ret;exact⟨rfl,0,rfl⟩
  ·go_enter Tryz.func20,Tryz.ntmps20
   go_wp2;go_loopw [5] (fun i wr=>∃ k:Nat,k≤bs.length∧i=.int .i64 k∧∃ q,wr=w.drewN q) (fun i _=>bs.length-(intOf i).toNat)
   case atStart=>exact⟨0,Nat.zero_le _,rfl,0,rfl⟩
   case round =>
    obtain⟨k,hk,rfl,q,rfl⟩:=hrel;by_cases hlt:k<bs.length
    ·have h1:=hA k hlt;have h2:=hB k hlt;have h3:(bs[k] != bs[k])=false:=(by simp);clear hA hB;go_wp2;go_quiet (fail)
     go_wp2;go_roundw
     case rel=>exact⟨k+1,by omega,by go_num,_,rfl⟩
     case measure=>simp[intOf];omega
    ·go_wp2;go_ret;exact⟨rfl,q,rfl⟩
theorem zgG(va vb:Value)(bs:List ByteArray)(w:World)(ha:RdS w va bs)(hb:RdS w vb bs) :
 Calls Tryz.prog 81 #[va,vb] w fun e w'=>e=.returned (.bool true)∧∃ q,w'=w.drewN q:=by
 obtain⟨aa,ca,rfl,hla,hma,hA⟩:=ha;obtain⟨ab,cb,rfl,hlb,hmb,hB⟩:=hb;unfold maxLen at hma hmb;have hne:((bs.length:Int) != (bs.length:Int))=false:=by simp
 rcases hA with rfl | ⟨ba,offa,rfl,hA⟩
 ·go_enter Tryz.func81,Tryz.ntmps81
  go_wp2;refine wp_loop_rounds 1 ?_;rw[rounds_succ];go_wp2;go_ret;exact⟨rfl,0,rfl⟩
 ·rcases hB with rfl | ⟨bb,offb,rfl,hB⟩
  ·go_enter Tryz.func81,Tryz.ntmps81
   go_wp2;refine wp_loop_rounds 1 ?_;rw[rounds_succ];go_wp2;go_ret;exact⟨rfl,0,rfl⟩
  ·go_enter Tryz.func81,Tryz.ntmps81
   go_wp2;go_loopw [5] (fun i wr=>∃ k:Nat,k≤bs.length∧i=.int .i64 k∧∃ q,wr=w.drewN q) (fun i _=>bs.length-(intOf i).toNat)
   case atStart=>exact⟨0,Nat.zero_le _,rfl,0,rfl⟩
   case round =>
    obtain⟨k,hk,rfl,q,rfl⟩:=hrel;by_cases hlt:k<bs.length
    ·have h1:=hA k hlt;have h2:=hB k hlt;clear hA hB;go_wp2;go_quiet (fail)
     go_wp2;go_roundw
     case rel=>exact⟨k+1,by omega,by go_num,_,rfl⟩
     case measure=>simp[intOf];omega
    ·go_wp2;go_ret;exact⟨rfl,q,rfl⟩
theorem zec(va vb:Value)(es:List Ent)(w:World)(ha:RdE w va es)(hb:RdE w vb es) :
 Calls Tryz.prog 14 #[va,vb] w fun e w'=>e=.returned (.bool true)∧∃ n,w'=w.drewN n:=by
 obtain⟨aa,ca,hva,hla,hma,_⟩:=id ha;obtain⟨ab,cb,hvb,hlb,hmb,_⟩:=id hb;subst hva;subst hvb;unfold maxLen at hma hmb;have hne:((es.length:Int) != (es.length:Int))=false:=by simp
 go_enter Tryz.func14,Tryz.ntmps14
 go_wp2;go_loopw [5] (fun i wr=>∃ k:Nat,k≤es.length∧i=.int .i64 k∧∃ n,wr=w.drewN n) (fun i _=>es.length-(intOf i).toNat)
 case atStart=>exact⟨0,Nat.zero_le _,rfl,0,rfl⟩
 case round =>
  obtain⟨k,hk,rfl,n,rfl⟩:=hrel;by_cases hlt:k<es.length
  ·obtain⟨b1,o1,rfl,hc1⟩:=(ha.drewN n).at rfl k hlt;obtain⟨b2,o2,rfl,hc2⟩:=(hb.drewN n).at rfl k hlt;obtain⟨x,hx⟩:∃ x,x=nth es k:=⟨_,rfl⟩;rw[← hx] at hc1 hc2;clear hx;go_wp2_with fail
   refine brg (S:=fun w'=>EntAt w' b1 (o1+k*4) x∧EntAt w' b2 (o2+k*4) x) ⟨hc1,hc2⟩ (fun hH=>?_);refine kA 0 17 hH ?_;refine kA 1 18 hH ?_;refine kA 2 19 hH ?_;refine kA 3 20 hH ?_;refine kA 4 21 hH ?_;refine kA 5 22 hH ?_;refine kA 6 23 hH ?_;refine kA 7 24 hH ?_;refine kA 8 25 hH ?_;refine dne ?_;go_wp2;go_roundw
   case rel=>exact⟨k+1,by omega,by go_num,n+1,rfl⟩
   case measure=>simp[intOf];omega
  ·go_wp2;go_ret;exact⟨rfl,n,rfl⟩
end Go.Proofs.YtjlnchhgkfnldaaGreat
