import Derived.Test.YtjlnchhgkfnldaaGreatNum
import Derived.Lib.AppendStr
import Derived.Test.YtjlnchhgkfnldaaGreatG07
namespace Go.Proofs.YtjlnchhgkfnldaaGreat
set_option maxHeartbeats 16000000
set_option maxRecDepth 100000
open Go.RowKit
def zby(s:ByteArray):List UInt8:=if s.size≤3000 then enc s.size++s.data.toList else []
theorem zlc(s:ByteArray):Lib.strCells s=BV s.data.toList:=rfl
theorem zlZ{w1:World}{B:Nat}{v':Value}{ys:List UInt8}{s:ByteArray}(h:w1.ownsRow B 5 1 v' (ys.length+s.size) (BV ys++Lib.strCells s)):Own w1 B v' (ys++s.data.toList):=by
 unfold Own;rw[zeE,lA,zH,← zlc];exact h
theorem zhd{w wr w1:World}{B:Nat}{v:Value}{ys:List UInt8}(hown:Own wr B v ys)(hb:Below B w wr)(hB:B≤wr.heap.size)(hg:wr.grownBy w1 v.ownBlock):Below B w w1 :=
 hb.grown hg hB (fun k hk=>(oL hown k hk).1)
theorem zdX(s:ByteArray)(w:World)(hs:s.size≤1099511627776) :
 Calls Tryz.prog 139 #[.string s] w fun e w'=>∃ v,e=.returned v∧Own w' w.heap.size v (enc s.size++s.data.toList)∧Below w.heap.size w w':=by
 obtain⟨i0,hi,hz0,hz1,hz2⟩:=info_parts Tryz.info5;have hL:=zak s.size (by omega);go_enter Tryz.func139,Tryz.ntmps139
 go_wp2_with fail
 refine(zbm _ _ (by omega) (by omega)).mono ?_;rw[Int.toNat_natCast];rintro e w1 ⟨v,rfl,ho,hb⟩;have hsz:=hb.size;go_wp2_with (at_builtin;(refine Lib.wpList_append_own_string _ rfl _ _ 22 9 rfl w.heap.size 5 i0 Tryz.underlying22 Tryz.underlying9 hi hz0 hz1 hz2 _ _ _ rfl ho s rfl ?c1 ?c2 ?c3 ?_))
 case c1=>unfold maxLen;omega
 case c2=>omega
 case c3=>omega
 ·intro v' w2 hown' hgrow _;have R1:=zlZ hown';have R2:=zhd ho hb hsz hgrow;clear hown' hgrow ho hb;go_wp2;go_ret;exact⟨_,rfl,R1,R2⟩
theorem zko(s:ByteArray)(h:s.size≤3000):zby s=enc s.size++s.data.toList:=by unfold zby;rw[if_pos h]
theorem text_out(s:ByteArray)(h:3000<s.size):zby s=[]:=by unfold zby;rw[if_neg (by omega)]
theorem zfv(s:ByteArray)(w:World)(hs:s.size≤1099511627776) :
 Calls Tryz.prog 151 #[.string s] w fun e w'=>∃ v,e=.returned v∧Own w' w.heap.size v (zby s)∧Below w.heap.size w w':=by
 by_cases h:s.size≤3000
 ·rw[zko s h];obtain⟨i0,hi,hz0,hz1,hz2⟩:=info_parts Tryz.info5;have hL:=zak s.size (by omega);have hn:=zhI (s.size:Int) (by omega) (by omega);rw[Int.toNat_natCast] at hn;have Hn:Hid (num (s.size:Int)=enc s.size):=hn;clear hn;go_enter Tryz.func151,Tryz.ntmps151
  go_wp2_with fail
  refine(zbK _ _).mono ?_;rw[Hn.out];rintro e w1 ⟨v,rfl,ho,hb⟩;have hsz:=hb.size;go_wp2_with (at_builtin;(refine Lib.wpList_append_own_string _ rfl _ _ 22 9 rfl w.heap.size 5 i0 Tryz.underlying22 Tryz.underlying9 hi hz0 hz1 hz2 _ _ _ rfl ho s rfl ?c1 ?c2 ?c3 ?_))
  case c1=>unfold maxLen;omega
  case c2=>omega
  case c3=>omega
  ·intro v' w2 hown' hgrow _;have R1:=zlZ hown';have R2:=zhd ho hb hsz hgrow;clear hown' hgrow ho hb;go_wp2;go_ret;exact⟨_,rfl,R1,R2⟩
 ·rw[text_out s (by omega)];go_enter Tryz.func151,Tryz.ntmps151
  go_wp2;go_ret;exact⟨_,rfl,zcB _,(Below.refl _ _).alloc (nR _) _⟩
open Go.RowKit
theorem zdh(ty:TypeId){w:World}{base B2:Nat}{v u:Value}{ys zs:List UInt8}(hown:Own w base v ys)(hr:Own w B2 u zs)(hl:ys.length+zs.length≤1000000000)(hbase:base≤w.heap.size) :
 ∃ v' w',(Builtin.append_ #[22,22] ty #[v,u]).run Tryz.prog w=.ok v' w'∧Own w' base v' (ys++zs)∧w.grownBy w' v.ownBlock:=by
 obtain⟨i0,hi,hz0,hz1,hz2⟩:=info_parts Tryz.info5;rcases hr.2 with ⟨rfl,h0⟩ | ⟨g,cap,cur,rfl,_⟩
 ·have:zs=[]:=List.length_eq_zero_iff.1 h0;subst this;refine⟨v,w,run_append_owned_none (P:=Tryz.prog) w base 22 ty 5 i0 1 Tryz.underlying22 hi v ys.length (BV ys) hown,by simpa using hown,⟨rfl,rfl,rfl,nR _,fun _ _ _=>rfl⟩⟩
 ·obtain⟨v',w',hrun,r1,r2,_⟩:=run_append_own (P:=Tryz.prog) w base 22 ty 5 i0 _ 1 1 Tryz.underlying22 hi hz0 hz1 hz2 rfl (by decide) v ys.length (BV ys) hown ⟨g,0,none⟩ zs.length cap (BV zs) (by rw[zbR];omega) (World.ownsRow.cells hr rfl) (zmP zs) (by unfold maxLen;omega) (by omega) hbase;exact⟨v',w',hrun,own_more r1,r2⟩
theorem zbi{w:World}{ops:Array Oper}{rest:List Oper}{o:Oper}{a:Act}{Q:Exit→Act→World→Prop}(hgd:o.guard=none)(s x:Operand)
 (ho:o.op=.call { callee:=.builtin .append,args:=#[s,x],argTypes:=#[22,22] }) (base B2:Nat) (v u:Value) (ys zs:List UInt8) (hs:a.eval s=v) (hx:a.eval x=u) (hown:Own w base v ys) (hr:Own w B2 u zs) (hl:ys.length+zs.length≤1000000000) (hbase:base≤w.heap.size)
 (h:∀ v' w',Own w' base v' (ys++zs)→w.grownBy w' v.ownBlock→wpList Tryz.prog ops Q rest (a.put o.dst v') w'):wpList Tryz.prog ops Q (o::rest) a w:=by
 refine wpList_plain hgd fun K hK=>?_
 obtain⟨v',w',hrun,r1,r2⟩:=zdh o.type hown hr hl hbase;unfold Oper.wp;simp[execOp,ho,resolve,invoke,builtin,hs,hx,hrun,Result.andThen];exact hK _ _ (h v' w' r1 r2)
theorem zaj{w:World}{ops:Array Oper}{o:Oper}{a:Act}{K:Act→World→Prop}{Q:Exit→Act→World→Prop}{E:Prop}(hgd:o.guard=none)(d:Nat)(hd:o.dst=some d)(s x:Operand)
 (ho:o.op=.call { callee:=.builtin .append,args:=#[s,x],argTypes:=#[22,22] }) (base B2:Nat) (v u:Value) (ys zs:List UInt8) (hs:a.eval s=v) (hx:a.eval x=u) (hown:Own w base v ys) (hr:Own w B2 u zs) (hl:ys.length+zs.length≤1000000000) (hbase:base≤w.heap.size)
 (h:∀ v' w',Own w' base v' (ys++zs)→w.grownBy w' v.ownBlock→K (a.put (some d) v') w') :
 if Region.wanted o (yielded ops a.tmps)=true then Oper.wp Tryz.prog o a w K Q else E:=by
 have hw:Region.wanted o (yielded ops a.tmps)=true:=by simp[Region.wanted,hgd]
 rw[if_pos hw];obtain⟨v',w',hrun,r1,r2⟩:=zdh o.type hown hr hl hbase;unfold Oper.wp;simp[execOp,ho,resolve,invoke,builtin,hs,hx,hrun,Result.andThen];have h':=h v' w' r1 r2;rw[← hd] at h';exact h'
theorem zhJ(b:Bool)(w:World):Calls Tryz.prog 140 #[.bool b] w fun e w'=>e=.returned (.int .i64 (if b=true then 1 else 0))∧w'=w:=by
 cases b with
 | true =>
  go_enter Tryz.func140,Tryz.ntmps140
  go_wp2;go_ret;exact⟨rfl,rfl⟩
 | false =>
  go_enter Tryz.func140,Tryz.ntmps140
  go_wp2;go_ret;exact⟨rfl,rfl⟩
theorem zgb(s:ByteArray)(c:Nat):enc (s.extract c s.size).size++(s.extract c s.size).data.toList=enc (s.size-c)++s.data.toList.drop c:=by
 rw[ByteArray.size_extract,Nat.min_self,ByteArray.data_extract,Array.toList_extract,List.extract_eq_take_drop];rw[List.take_of_length_le (by rw[List.length_drop,zH];exact nR _)]
theorem ent_not{w:World}{B b:Nat}{v:Value}{ys:List UInt8}{x:Ent}(h:Own w B v ys)(hy:0<ys.length)(he:EntAt w b 0 x):∀ j,v.ownBlock=some j→b≠j:=by
 obtain⟨g,cap,hv,hc⟩:=own_some h (List.length_pos_iff.1 hy);subst hv;intro j hj e;obtain rfl:g=j:=by simpa [Value.ownBlock] using hj
 subst e;have h1:=hc 0 _ (zhw ys 0 hy);rw[Addr.add_lit,Nat.zero_add] at h1;rw[he.1] at h1;cases h1
theorem EntAt.grew{w w':World}{B b:Nat}{v:Value}{ys:List UInt8}{x:Ent}(he:EntAt w b 0 x)(h:Own w B v ys)(hy:0<ys.length)(hg:w.grownBy w' v.ownBlock):EntAt w' b 0 x :=
 he.of_block (hg.block _ he.lt (fun e=>ent_not h hy he b e.symm rfl))
theorem zaK{a w w':World}{B:Nat}{v:Value}{ys:List UInt8}(hb:Below B a w)(h:Own w B v ys)(hg:w.grownBy w' v.ownBlock)(hs:B≤w.heap.size):Below B a w' :=
 hb.grown hg hs (fun j hj=>(oL h j hj).1)
theorem nth_ok{es:List Ent}(h:okL es=true){k:Nat}(hk:k<es.length):okE (nth es k)=true:=zie h hk
theorem zcx(v:Value)(es:List Ent)(w:World)(hr:RdE w v es)(hpk:∀ e∈es,PkE e)(hlen:es.length≤400) :
 Calls Tryz.prog 112 #[v] w fun e w'=>∃ u,e=.returned u∧Own w' w.heap.size u (packA es)∧Below w.heap.size w w':=by
 obtain⟨a,cap,hv,hl,hm,_⟩:=id hr;unfold maxLen at hm;subst hv;have HOK:Hid (∀ e∈es,PkE e):=hpk;clear hpk;go_enter Tryz.func112,Tryz.ntmps112
 go_wp2_with fail
 refine(zbm _ _ (by omega) (by omega)).mono ?_;rw[Int.toNat_natCast];rintro e w1 ⟨u1,rfl,ho1,hb1⟩;have he9:=zak es.length (by omega);go_wp2;go_loopw [3,4,5] (fun v l i wr=>∃ (k:Nat) (last:ByteArray) (ys:List UInt8),k≤es.length∧i=.int .i64 k∧l=.string last∧last.size≤1000∧Hid (ys++packF k last (es.drop k)=packA es)∧0<ys.length∧ys.length≤9+2100*k∧Own wr w.heap.size v ys∧Below w.heap.size w wr) (fun _ _ i _=>es.length-(intOf i).toNat)
 case atStart=>exact⟨0,⟨#[]⟩,_,Nat.zero_le _,rfl,rfl,Nat.zero_le _,by unfold Hid packA;rfl,zc7 _,by omega,ho1,hb1⟩
 case round =>
  obtain⟨k,last,ys,hk,rfl,rfl,hls,HP,hy0,hyl,ho,hb⟩:=hrel;clear ho1 hb1;by_cases hlt:k<es.length
  ·obtain⟨b,off,rfl,hc⟩:=(hr.below hb).at rfl k hlt;obtain⟨y,hy⟩:∃ y,y=nth es k:=⟨_,rfl⟩;rw[← hy] at hc;have HY:Hid (y=nth es k):=hy;have hoky:PkE y:=(by rw[hy,zU hlt];exact HOK.out _ (List.getElem_mem hlt));obtain⟨hy2,hy3,hy4,hy5⟩:=id hoky;have HOY:Hid (PkE y):=hoky;clear hy hoky;obtain⟨c0,c1,c2,c3⟩:=id hc;have hx2:=zau wr y 40;have b2:=hb.alloc hb.size (.cells #[.string y.key,.string y.val,.int .i64 y.seq,.bool y.gone] 40);have ho2:=ho.below (ze _ (.cells #[.string y.key,.string y.val,.int .i64 y.seq,.bool y.gone] 40));by_cases h8:k % 8=0
   ·have h8d:((k:Int) % 8==0)=true:=(by simp;omega);have HL:Hid (ahead k last=⟨#[]⟩):=(by unfold Hid ahead;rw[if_pos h8]);go_wp2_with fail
    refine(zej _ _ _ (Nat.zero_le _) (by omega)).mono ?_;rintro e w3 ⟨rfl,n3,rfl⟩;have hx3:EntAt ((wr.alloc (.cells #[.string y.key,.string y.val,.int .i64 y.seq,.bool y.gone] 40)).drewN n3) wr.heap.size 0 y:=hx2;have b3:=below_drewN b2 n3;have ho3:=ho2.drewN n3;have hcl:=zhc ⟨#[]⟩ y.key;have HE:Hid (packE (ahead k last) y=enc (com ⟨#[]⟩ y.key)++((enc (y.key.size-com ⟨#[]⟩ y.key)++y.key.data.toList.drop (com ⟨#[]⟩ y.key))++(enc (stp y)++(enc y.val.size++y.val.data.toList)))):=(by unfold Hid;rw[HL.out];rfl);generalize com ⟨#[]⟩ y.key=c at hcl HE ⊢;clear ho hb c0 c1 c2 c3 hc hx2 b2 ho2;generalize (wr.alloc (.cells #[.string y.key,.string y.val,.int .i64 y.seq,.bool y.gone] 40)).drewN n3=W3 at hx3 b3 ho3 ⊢;obtain⟨hcl1,hcl2⟩:=hcl;obtain⟨kr,hkr⟩:∃ kr,kr=y.key.extract c y.key.size:=⟨_,rfl⟩;have hk1:kr.size≤1000:=(by rw[hkr,ByteArray.size_extract];omega);have HK1:Hid (enc kr.size++kr.data.toList=enc (y.key.size-c)++y.key.data.toList.drop c):=(by rw[hkr];exact zgb y.key c);have n1:=zak c (by omega);have n2:=zak kr.size (by omega);have n4:=zH kr;go_wp2_with fail
    refine brg (S:=fun w'=>EntAt w' wr.heap.size 0 y) hx3 (fun hH=>?_);have qo:Own W3.drew _ _ ys:=ho3.drewN 1;have qb:=b3.drew;clear ho3 b3 hx3;revert hH qo qb;generalize W3.drew=W0;intro hH qo qb;refine kA 0 28 hH ?_;refine kA 1 29 hH ?_;refine kA 4 32 hH ?_;refine kA 5 33 hH ?_;refine kA 6 34 hH ?_;refine kA 7 35 hH ?_;rw[← hkr];clear hkr;refine rdy 2 (fun K hK=>?_);go_simp;refine(zbm _ _ (by omega) (by omega)).mono ?_;rw[Int.toNat_natCast];rintro e w4 ⟨u4,rfl,ho4,hb4⟩;have s4:=qb.size;replace qo:=qo.below hb4;replace qb:=qb.trans (hb4.mono s4);replace hH:=hH.below hb4;refine hK.out _ _ hH (fun h4=>?_);clear hK K h4;try simp only[Act.put,sA,sZ,sS]
    refine rdy 3 (fun K hK=>?_);refine zaj rfl 31 rfl _ _ rfl w.heap.size _ _ _ ys (enc c) rfl rfl qo ho4 (by omega) qb.size ?_;intro v5 w5 ho5 hg5;replace hH:=hH.grew qo hy0 hg5;replace qb:=zaK qb qo hg5 qb.size;refine hK.out _ _ hH (fun h5=>?_);clear hK K h5 hg5 ho4 qo hb4 s4;try simp only[Act.put,sA,sZ,sS]
    refine rdy 8 (fun K hK=>?_);go_simp;refine(zdX kr _ (by omega)).mono ?_;rintro e w6 ⟨u6,rfl,ho6,hb6⟩;have s6:=qb.size;replace ho5:=ho5.below hb6;replace qb:=qb.trans (hb6.mono s6);replace hH:=hH.below hb6;refine hK.out _ _ hH (fun h4=>?_);clear hK K h4;try simp only[Act.put,sA,sZ,sS]
    refine rdy 9 (fun K hK=>?_);refine zaj rfl 37 rfl _ _ rfl w.heap.size _ _ _ _ _ rfl rfl ho5 ho6 (by simp only[lA];omega) qb.size ?_;intro v7 w7 ho7 hg7;replace hH:=hH.grew ho5 (by simp only[lA];omega) hg7;replace qb:=zaK qb ho5 hg7 qb.size;refine hK.out _ _ hH (fun h5=>?_);clear hK K h5 hg7 ho5 ho6 hb6 s6;try simp only[Act.put,sA,sZ,sS]
    refine kA 10 3 hH ?_;refine dne ?_;obtain⟨zs,hzs⟩:∃ zs,zs=(ys++enc c)++(enc kr.size++kr.data.toList):=⟨_,rfl⟩;rw[← hzs] at ho7;have hzl:zs.length≤ys.length+1018:=(by rw[hzs];simp only[lA];omega);have hz0:0<zs.length:=(by rw[hzs];simp only[lA];omega);have HZ:Hid (zs=ys++(enc c++(enc (y.key.size-c)++y.key.data.toList.drop c))):=(by rw[hzs,HK1.out];exact List.append_assoc _ _ _);clear hzs HK1 n1 n2 n4 hk1;obtain⟨fl,hfl⟩:∃ fl:Int,fl=if y.gone=true then 1 else 0:=⟨_,rfl⟩
    have hf1:0≤fl∧fl≤1:=(by rw[hfl];split<;>omega);have HST:Hid ((2*y.seq+fl).toNat=stp y):=(by unfold Hid stp;rw[hfl];split<;>omega);have HFL:Hid ((if y.gone=true then (1:Int) else 0)=fl):=hfl.symm;clear hfl;have hw1:IntKind.i64.wrap (2*y.seq)=2*y.seq:=(by rw[IntKind.wrap_i64];omega);have hw2:IntKind.i64.wrap (2*y.seq+fl)=2*y.seq+fl:=(by rw[IntKind.wrap_i64];omega);go_wp2_with fail
    refine brg (S:=fun w'=>EntAt w' wr.heap.size 0 y) hH (fun hI=>?_);have po:Own w7.drew _ _ zs:=ho7.drewN 1;have pb:=qb.drew;clear ho7 qb hH;revert hI po pb;generalize w7.drew=W8;intro hI po pb;refine kA 0 38 hI ?_;refine kA 1 39 hI ?_;refine kA 2 40 hI ?_;refine kA 3 41 hI ?_;refine kA 4 42 hI ?_;refine kA 5 43 hI ?_;refine kA 10 48 hI ?_;refine kA 11 49 hI ?_;refine rdy 6 (fun K hK=>?_);go_simp;refine(zhJ _ _).mono ?_;rw[HFL.out];rintro e w9 ⟨rfl,rfl⟩;refine hK.out _ _ hI (fun h4=>?_);clear hK K h4;try simp only[Act.put,sA,sZ,sS]
    refine kA 7 45 hI ?_;refine rdy 8 (fun K hK=>?_);go_simp;refine(zbm _ _ (by omega) (by omega)).mono ?_;rw[HST.out];rintro e w10 ⟨u10,rfl,ho10,hb10⟩;have m1:=zak (stp y) (by have:=zkr HOY.out;omega);have m2:=zak y.val.size (by omega);have m3:=zH y.val;have s10:=pb.size;replace po:=po.below hb10;replace pb:=pb.trans (hb10.mono s10);replace hI:=hI.below hb10;refine hK.out _ _ hI (fun h4=>?_);clear hK K h4;try simp only[Act.put,sA,sZ,sS]
    refine rdy 9 (fun K hK=>?_);refine zaj rfl 47 rfl _ _ rfl w.heap.size _ _ _ _ _ rfl rfl po ho10 (by omega) pb.size ?_;intro v11 w11 ho11 hg11;replace hI:=hI.grew po hz0 hg11;replace pb:=zaK pb po hg11 pb.size;refine hK.out _ _ hI (fun h5=>?_);clear hK K h5 hg11 ho10 po hb10 s10;try simp only[Act.put,sA,sZ,sS]
    refine rdy 12 (fun K hK=>?_);go_simp;refine(zdX y.val _ (by omega)).mono ?_;rintro e w12 ⟨u12,rfl,ho12,hb12⟩;have s12:=pb.size;replace ho11:=ho11.below hb12;replace pb:=pb.trans (hb12.mono s12);replace hI:=hI.below hb12;refine hK.out _ _ hI (fun h4=>?_);clear hK K h4;try simp only[Act.put,sA,sZ,sS]
    refine rdy 13 (fun K hK=>?_);refine zaj rfl 51 rfl _ _ rfl w.heap.size _ _ _ _ _ rfl rfl ho11 ho12 (by simp only[lA];omega) pb.size ?_;intro v13 w13 ho13 hg13;replace hI:=hI.grew ho11 (by simp only[lA];omega) hg13;replace pb:=zaK pb ho11 hg13 pb.size;refine hK.out _ _ hI (fun h5=>?_);clear hK K h5 hg13 ho11 ho12 hb12 s12;try simp only[Act.put,sA,sZ,sS]
    refine kA 14 3 hI ?_;refine dne ?_;obtain⟨xs,hxs⟩:∃ xs,xs=(zs++enc (stp y))++(enc y.val.size++y.val.data.toList):=⟨_,rfl⟩;rw[← hxs] at ho13;have hxl:xs.length≤9+2100*(k+1):=(by rw[hxs];simp only[lA];omega);have hx0:0<xs.length:=(by rw[hxs];simp only[lA];omega);have HX:Hid (xs++packF (k+1) y.key (es.drop (k+1))=packA es):=by
     unfold Hid;rw[← HP.out,zfZ hlt,← HY.out,HE.out,hxs,HZ.out];simp only[List.append_assoc]
    clear hxs m1 m2 m3 HP HE HZ HFL HST hw1 hw2 hf1 hzl;obtain⟨d0,d1,d2,d3⟩:=id hI;simp only[Nat.zero_add] at d1 d2 d3;go_wp2;go_roundw
    case rel=>exact⟨k+1,y.key,xs,by omega,by go_num,rfl,hy2,HX,hx0,hxl,ho13,pb⟩
    case measure=>simp[intOf];omega
   ·have h8d:((k:Int) % 8==0)=false:=(by simp;omega);have HL:Hid (ahead k last=last):=(by unfold Hid ahead;rw[if_neg h8]);go_wp2_with fail
    refine(zej _ _ _ (by omega) (by omega)).mono ?_;rintro e w3 ⟨rfl,n3,rfl⟩;have hx3:EntAt ((wr.alloc (.cells #[.string y.key,.string y.val,.int .i64 y.seq,.bool y.gone] 40)).drewN n3) wr.heap.size 0 y:=hx2;have b3:=below_drewN b2 n3;have ho3:=ho2.drewN n3;have hcl:=zhc last y.key;have HE:Hid (packE (ahead k last) y=enc (com last y.key)++((enc (y.key.size-com last y.key)++y.key.data.toList.drop (com last y.key))++(enc (stp y)++(enc y.val.size++y.val.data.toList)))):=(by unfold Hid;rw[HL.out];rfl);generalize com last y.key=c at hcl HE ⊢;clear ho hb c0 c1 c2 c3 hc hx2 b2 ho2;generalize (wr.alloc (.cells #[.string y.key,.string y.val,.int .i64 y.seq,.bool y.gone] 40)).drewN n3=W3 at hx3 b3 ho3 ⊢;obtain⟨hcl1,hcl2⟩:=hcl;obtain⟨kr,hkr⟩:∃ kr,kr=y.key.extract c y.key.size:=⟨_,rfl⟩;have hk1:kr.size≤1000:=(by rw[hkr,ByteArray.size_extract];omega);have HK1:Hid (enc kr.size++kr.data.toList=enc (y.key.size-c)++y.key.data.toList.drop c):=(by rw[hkr];exact zgb y.key c);have n1:=zak c (by omega);have n2:=zak kr.size (by omega);have n4:=zH kr;go_wp2_with fail
    refine brg (S:=fun w'=>EntAt w' wr.heap.size 0 y) hx3 (fun hH=>?_);have qo:Own W3.drew _ _ ys:=ho3.drewN 1;have qb:=b3.drew;clear ho3 b3 hx3;revert hH qo qb;generalize W3.drew=W0;intro hH qo qb;refine kA 0 28 hH ?_;refine kA 1 29 hH ?_;refine kA 4 32 hH ?_;refine kA 5 33 hH ?_;refine kA 6 34 hH ?_;refine kA 7 35 hH ?_;rw[← hkr];clear hkr;refine rdy 2 (fun K hK=>?_);go_simp;refine(zbm _ _ (by omega) (by omega)).mono ?_;rw[Int.toNat_natCast];rintro e w4 ⟨u4,rfl,ho4,hb4⟩;have s4:=qb.size;replace qo:=qo.below hb4;replace qb:=qb.trans (hb4.mono s4);replace hH:=hH.below hb4;refine hK.out _ _ hH (fun h4=>?_);clear hK K h4;try simp only[Act.put,sA,sZ,sS]
    refine rdy 3 (fun K hK=>?_);refine zaj rfl 31 rfl _ _ rfl w.heap.size _ _ _ ys (enc c) rfl rfl qo ho4 (by omega) qb.size ?_;intro v5 w5 ho5 hg5;replace hH:=hH.grew qo hy0 hg5;replace qb:=zaK qb qo hg5 qb.size;refine hK.out _ _ hH (fun h5=>?_);clear hK K h5 hg5 ho4 qo hb4 s4;try simp only[Act.put,sA,sZ,sS]
    refine rdy 8 (fun K hK=>?_);go_simp;refine(zdX kr _ (by omega)).mono ?_;rintro e w6 ⟨u6,rfl,ho6,hb6⟩;have s6:=qb.size;replace ho5:=ho5.below hb6;replace qb:=qb.trans (hb6.mono s6);replace hH:=hH.below hb6;refine hK.out _ _ hH (fun h4=>?_);clear hK K h4;try simp only[Act.put,sA,sZ,sS]
    refine rdy 9 (fun K hK=>?_);refine zaj rfl 37 rfl _ _ rfl w.heap.size _ _ _ _ _ rfl rfl ho5 ho6 (by simp only[lA];omega) qb.size ?_;intro v7 w7 ho7 hg7;replace hH:=hH.grew ho5 (by simp only[lA];omega) hg7;replace qb:=zaK qb ho5 hg7 qb.size;refine hK.out _ _ hH (fun h5=>?_);clear hK K h5 hg7 ho5 ho6 hb6 s6;try simp only[Act.put,sA,sZ,sS]
    refine kA 10 3 hH ?_;refine dne ?_;obtain⟨zs,hzs⟩:∃ zs,zs=(ys++enc c)++(enc kr.size++kr.data.toList):=⟨_,rfl⟩;rw[← hzs] at ho7;have hzl:zs.length≤ys.length+1018:=(by rw[hzs];simp only[lA];omega);have hz0:0<zs.length:=(by rw[hzs];simp only[lA];omega);have HZ:Hid (zs=ys++(enc c++(enc (y.key.size-c)++y.key.data.toList.drop c))):=(by rw[hzs,HK1.out];exact List.append_assoc _ _ _);clear hzs HK1 n1 n2 n4 hk1;obtain⟨fl,hfl⟩:∃ fl:Int,fl=if y.gone=true then 1 else 0:=⟨_,rfl⟩
    have hf1:0≤fl∧fl≤1:=(by rw[hfl];split<;>omega);have HST:Hid ((2*y.seq+fl).toNat=stp y):=(by unfold Hid stp;rw[hfl];split<;>omega);have HFL:Hid ((if y.gone=true then (1:Int) else 0)=fl):=hfl.symm;clear hfl;have hw1:IntKind.i64.wrap (2*y.seq)=2*y.seq:=(by rw[IntKind.wrap_i64];omega);have hw2:IntKind.i64.wrap (2*y.seq+fl)=2*y.seq+fl:=(by rw[IntKind.wrap_i64];omega);go_wp2_with fail
    refine brg (S:=fun w'=>EntAt w' wr.heap.size 0 y) hH (fun hI=>?_);have po:Own w7.drew _ _ zs:=ho7.drewN 1;have pb:=qb.drew;clear ho7 qb hH;revert hI po pb;generalize w7.drew=W8;intro hI po pb;refine kA 0 38 hI ?_;refine kA 1 39 hI ?_;refine kA 2 40 hI ?_;refine kA 3 41 hI ?_;refine kA 4 42 hI ?_;refine kA 5 43 hI ?_;refine kA 10 48 hI ?_;refine kA 11 49 hI ?_;refine rdy 6 (fun K hK=>?_);go_simp;refine(zhJ _ _).mono ?_;rw[HFL.out];rintro e w9 ⟨rfl,rfl⟩;refine hK.out _ _ hI (fun h4=>?_);clear hK K h4;try simp only[Act.put,sA,sZ,sS]
    refine kA 7 45 hI ?_;refine rdy 8 (fun K hK=>?_);go_simp;refine(zbm _ _ (by omega) (by omega)).mono ?_;rw[HST.out];rintro e w10 ⟨u10,rfl,ho10,hb10⟩;have m1:=zak (stp y) (by have:=zkr HOY.out;omega);have m2:=zak y.val.size (by omega);have m3:=zH y.val;have s10:=pb.size;replace po:=po.below hb10;replace pb:=pb.trans (hb10.mono s10);replace hI:=hI.below hb10;refine hK.out _ _ hI (fun h4=>?_);clear hK K h4;try simp only[Act.put,sA,sZ,sS]
    refine rdy 9 (fun K hK=>?_);refine zaj rfl 47 rfl _ _ rfl w.heap.size _ _ _ _ _ rfl rfl po ho10 (by omega) pb.size ?_;intro v11 w11 ho11 hg11;replace hI:=hI.grew po hz0 hg11;replace pb:=zaK pb po hg11 pb.size;refine hK.out _ _ hI (fun h5=>?_);clear hK K h5 hg11 ho10 po hb10 s10;try simp only[Act.put,sA,sZ,sS]
    refine rdy 12 (fun K hK=>?_);go_simp;refine(zdX y.val _ (by omega)).mono ?_;rintro e w12 ⟨u12,rfl,ho12,hb12⟩;have s12:=pb.size;replace ho11:=ho11.below hb12;replace pb:=pb.trans (hb12.mono s12);replace hI:=hI.below hb12;refine hK.out _ _ hI (fun h4=>?_);clear hK K h4;try simp only[Act.put,sA,sZ,sS]
    refine rdy 13 (fun K hK=>?_);refine zaj rfl 51 rfl _ _ rfl w.heap.size _ _ _ _ _ rfl rfl ho11 ho12 (by simp only[lA];omega) pb.size ?_;intro v13 w13 ho13 hg13;replace hI:=hI.grew ho11 (by simp only[lA];omega) hg13;replace pb:=zaK pb ho11 hg13 pb.size;refine hK.out _ _ hI (fun h5=>?_);clear hK K h5 hg13 ho11 ho12 hb12 s12;try simp only[Act.put,sA,sZ,sS]
    refine kA 14 3 hI ?_;refine dne ?_;obtain⟨xs,hxs⟩:∃ xs,xs=(zs++enc (stp y))++(enc y.val.size++y.val.data.toList):=⟨_,rfl⟩;rw[← hxs] at ho13;have hxl:xs.length≤9+2100*(k+1):=(by rw[hxs];simp only[lA];omega);have hx0:0<xs.length:=(by rw[hxs];simp only[lA];omega);have HX:Hid (xs++packF (k+1) y.key (es.drop (k+1))=packA es):=by
     unfold Hid;rw[← HP.out,zfZ hlt,← HY.out,HE.out,hxs,HZ.out];simp only[List.append_assoc]
    clear hxs m1 m2 m3 HP HE HZ HFL HST hw1 hw2 hf1 hzl;obtain⟨d0,d1,d2,d3⟩:=id hI;simp only[Nat.zero_add] at d1 d2 d3;go_wp2;go_roundw
    case rel=>exact⟨k+1,y.key,xs,by omega,by go_num,rfl,hy2,HX,hx0,hxl,ho13,pb⟩
    case measure=>simp[intOf];omega
  ·skip
   have hke:k=es.length:=(by omega);have HE:Hid (ys=packA es):=(by have h:=HP.out;rw[hke,zj6,List.append_nil] at h;exact h);clear HP;go_wp2;go_ret;exact⟨_,rfl,by rw[← HE.out];exact ho,hb⟩
theorem zjh(v:Value)(es:List Ent)(w:World)(hr:RdE w v es)(hok:okL es=true) :
 Calls Tryz.prog 112 #[v] w fun e w'=>∃ u,e=.returned u∧Own w' w.heap.size u (packA es)∧Below w.heap.size w w' :=
 zcx v es w hr (fun e he=>zjo (zdn hok e he)) (by have:=zad hok;omega)
theorem zkv(v:Value)(es:List Ent)(w:World)(hr:RdE w v es)(hok:okL es=true) :
 Calls Tryz.prog 112 #[v] w fun e w'=>∃ u,e=.returned u∧Own w' w.heap.size u (packL es)∧Below w.heap.size w w':=by
 rw[zeW hok];exact zjh v es w hr hok
theorem zlF{es:List Ent}(h:okL es=false):packL es=[]:=by unfold packL;rw[if_neg (by simp[h])]
theorem zg6(v:Value)(es:List Ent)(w:World)(hr:RdE w v es)(hf:∀ e∈es,Fits e) :
 Calls Tryz.prog 161 #[v] w fun e w'=>∃ u,e=.returned u∧Own w' w.heap.size u (packL es)∧Below w.heap.size w w':=by
 have HF:Hid (∀ e∈es,Fits e):=hf;clear hf;cases hok:okL es with
 | false =>
  rw[zlF hok];have HOK:Hid (okL es=false):=hok;clear hok;go_enter Tryz.func161,Tryz.ntmps161
  go_wp2_with fail
  refine(znO v es _ hr HF.out HOK.out).mono ?_;rintro e w1 ⟨rfl,hb1⟩;go_wp2;go_ret;exact⟨_,rfl,(zcB w1).mono hb1.size,hb1.alloc hb1.size _⟩
 | true =>
  have HOK:Hid (okL es=true):=hok;clear hok;obtain⟨T,hT⟩:∃ T,T=packL es:=⟨_,rfl⟩;rw[← hT];have HC:Hid (∀ u W,RdE W u es→Calls Tryz.prog 112 #[u] W fun e w'=>∃ u,e=.returned u∧Own w' W.heap.size u T∧Below W.heap.size W w'):=fun u W h=>by rw[hT];exact zkv u es W h HOK.out
  clear hT;go_enter Tryz.func161,Tryz.ntmps161
  go_wp2_with fail
  refine(zml v es _ hr HF.out HOK.out).mono ?_;rintro e w1 ⟨rfl,hb1⟩;go_wp2_with fail
  refine(HC.out v _ (hr.below hb1)).mono ?_;rintro e w2 ⟨u,rfl,ho2,hb2⟩;go_wp2;go_ret;exact⟨_,rfl,ho2.mono hb1.size,hb1.trans (hb2.mono hb1.size)⟩
end Go.Proofs.YtjlnchhgkfnldaaGreat
