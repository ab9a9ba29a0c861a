import Derived.Lib.AppendZeros
import Derived.Test.YtjlnchhgkfnldaaGreatG12
import Derived.Test.YtjlnchhgkfnldaaGreatG15
namespace Go.Proofs.YtjlnchhgkfnldaaGreat
set_option maxHeartbeats 16000000
set_option maxRecDepth 100000
open Go.RowKit
theorem zkq(x:Ent)(w:World)(h:okE x=true) :
 Calls Tryz.prog 152 #[.agg #[.string x.key,.string x.val,.int .i64 x.seq,.bool x.gone]] w fun e w'=>e=.returned (.int .i64 (stp x:Int))∧Below w.heap.size w w':=by
 obtain⟨_,_,_,h4,h5⟩:=zaQ h;have hb0:=ze w (.cells #[.string x.key,.string x.val,.int .i64 x.seq,.bool x.gone] 40);have hx0:=zau w x 40;obtain⟨c0,c1,c2,c3⟩:=id hx0;simp only[Nat.zero_add] at c1 c2 c3;have HS:Hid ((stp x:Int)=2*x.seq+(if x.gone=true then 1 else 0)):=by unfold Hid stp;split<;>omega
 cases hg:x.gone with
 | true =>
  rw[hg] at c3 hb0;have HT:Hid ((stp x:Int)=2*x.seq+1):=by have:=HS.out;rw[hg,if_pos rfl] at this;exact this
  clear HS hx0 h;go_enter Tryz.func152,Tryz.ntmps152
  go_wp2;go_ret;exact⟨by rw[HT.out];rfl,hb0⟩
 | false =>
  rw[hg] at c3 hb0;have HT:Hid ((stp x:Int)=2*x.seq):=by have:=HS.out;rw[hg,if_neg (by simp)] at this;rw[this];exact Int.add_zero _
  clear HS hx0 h;go_enter Tryz.func152,Tryz.ntmps152
  go_wp2;go_ret;exact⟨by rw[HT.out];rfl,hb0⟩
theorem zhp(n:Nat):(Builtin.zeroCells #[Value.int .u8 0] n).size=n:=by simp[Builtin.zeroCells]
theorem grow_any(n:Nat)(w:World)(h0:0<n)(h1:n≤1000000000) :
 Calls Tryz.prog 162 #[.slice none 0 0,.int .i64 (n:Int)] w fun e w'=>∃ u,e=.returned u∧Own w' w.heap.size u []∧Below w.heap.size w w':=by
 obtain⟨i0,hi,hz0,hz1,hz2⟩:=info_parts Tryz.info5;have hrun:=Lib.run_append_nil_zeros (P:=Tryz.prog) w 22 3 22 5 i0 (.int .u8 0) .i64 .i64 Tryz.underlying22 Tryz.underlying3 hi hz0 n h0 (by rw[hz1];decide) (by omega) (by rw[hz2];omega);have hge:=grownCap_ge w n 0 5;have hle:=grownCap_le_maxLen w n 0 5 (by unfold maxLen;omega);have HB:Hid (Below w.heap.size w (w.drew.alloc (.cells (Builtin.zeroCells #[Value.int .u8 0] n++Builtin.zeroCells #[Value.int .u8 0] (grownCap w n 0 5-n)) 5))):=(Below.refl _ _).drew.alloc (nR _) _;have HO:Hid (Own (w.drew.alloc (.cells (Builtin.zeroCells #[Value.int .u8 0] n++Builtin.zeroCells #[Value.int .u8 0] (grownCap w n 0 5-n)) 5)) w.heap.size (.slice (some ⟨w.heap.size,0,none⟩) 0 (grownCap w n 0 5)) []):=by
  refine⟨rfl,.inr ⟨w.heap.size,grownCap w n 0 5,_,rfl,nR _,(show (w.drew.heap.push _)[w.drew.heap.size]? = some _ from Array.getElem?_push_size),Nat.zero_le _,hle,?_,by simp[BV]⟩⟩;rw[Array.size_append,zhp,zhp];omega
 change (Builtin.append_ #[22,3] 22 #[.slice none 0 0,.int .i64 (n:Int)]).run Tryz.prog w=.ok (.slice (some ⟨w.heap.size,0,none⟩) n (grownCap w n 0 5)) (w.drew.alloc (.cells (Builtin.zeroCells #[Value.int .u8 0] n++Builtin.zeroCells #[Value.int .u8 0] (grownCap w n 0 5-n)) 5)) at hrun;generalize grownCap w n 0 5=cap at hrun hge hle HB HO;unfold maxLen at hle;go_enter Tryz.func162,Tryz.ntmps162
 go_wp2_with (at_builtin;refine Lib.wpList_append_run _ rfl _ _ _ _ rfl _ _ rfl rfl _ _ hrun ?_)
 go_ret;exact⟨_,rfl,HO.out,HB.out⟩
def catL(ps:List (Value×List UInt8)):List UInt8:=ps.flatMap (·.2)
theorem zjV{ps:List (Value×List UInt8)}{k:Nat}(h:k<ps.length):catL (ps.take (k+1))=catL (ps.take k)++ps[k].2:=by
 unfold catL;rw[List.take_succ_eq_append_getElem h,List.flatMap_append,List.flatMap_singleton]
theorem znI(ps:List (Value×List UInt8))(k:Nat):(catL (ps.take k)).length≤(catL ps).length:=by
 have h:catL ps=catL (ps.take k)++catL (ps.drop k):=by unfold catL;rw[← List.flatMap_append,List.take_append_drop]
 rw[h,lA];omega
theorem zmj(ps:List (Value×List UInt8))(b off cap:Nat)(w:World)(hc:∀ i (h:i<ps.length),w.cell? ⟨b,off+i,none⟩=some ps[i].1)(ho:∀ p∈ps,∃ B,Own w B p.1 p.2)(hp:ps.length≤cap)(hm:cap≤1000000000)(h0:0<(catL ps).length)(h1:(catL ps).length≤1000000000) :
 Calls Tryz.prog 150 #[.slice (some ⟨b,off,none⟩) ps.length cap] w fun e w'=>∃ u,e=.returned u∧Own w' w.heap.size u (catL ps)∧Below w.heap.size w w':=by
 have HC:Hid (∀ i (h:i<ps.length),w.cell? ⟨b,off+i,none⟩=some ps[i].1):=hc;have HO:Hid (∀ p∈ps,∃ B,Own w B p.1 p.2):=ho;clear hc ho;go_enter Tryz.func150,Tryz.ntmps150
 go_wp2;go_loopw [3,11] (fun s i wr=>∃ k:Nat,k≤ps.length∧i=.int .i64 k∧s=.int .i64 ((catL (ps.take k)).length:Int)∧wr=w) (fun _ i _=>ps.length-(intOf i).toNat)
 case atStart=>exact⟨0,Nat.zero_le _,rfl,rfl,rfl⟩
 case round =>
  obtain⟨k,hk,rfl,rfl,hwr⟩:=hrel;obtain rfl:=hwr.symm;by_cases hlt:k<ps.length
  ·have hcell:=HC.out k hlt;obtain⟨B,hob⟩:=HO.out _ (List.getElem_mem hlt);obtain⟨aa,cc,hsh⟩:=hob.rd.shape;rw[hsh] at hcell;have HT:=congrArg List.length (zjV hlt);rw[lA] at HT;have hle:=znI ps (k+1);generalize ps[k].2.length=m at HT hcell;generalize hq:(catL (ps.take k)).length=q at HT ⊢;have hlq:(q:Int)+(m:Int)≤1000000000:=(by omega);have HQ:Hid ((q:Int)+(m:Int)=((catL (ps.take (k+1))).length:Int)):=(by unfold Hid;rw[HT];omega);clear HT hle hob hsh hq;go_wp2;go_roundw
   case rel=>exact⟨k+1,by omega,by go_num,by rw[← HQ.out],trivial⟩
   case measure=>simp[intOf];omega
  ·have hke:k=ps.length:=(by omega);subst hke;rw[List.take_length];go_wp2_with fail
   refine(grow_any _ _ h0 h1).mono ?_;rintro e w1 ⟨u1,rfl,ho1,hb1⟩;go_wp2;go_loopw [6,27] (fun v i wr=>∃ k:Nat,k≤ps.length∧i=.int .i64 k∧Own wr w.heap.size v (catL (ps.take k))∧Below w.heap.size w wr) (fun _ i _=>ps.length-(intOf i).toNat)
   case atStart=>exact⟨0,Nat.zero_le _,rfl,ho1,hb1⟩
   case round =>
    obtain⟨k,hk,rfl,hov,hbv⟩:=hrel;clear ho1 hb1;by_cases hlt:k<ps.length
    ·have hcell:=(hbv.cell (World.block_lt_of_cell? w _ (HC.out k hlt))).trans (HC.out k hlt);obtain⟨B,hob⟩:=HO.out _ (List.getElem_mem hlt);have hob2:=hob.below hbv;have HT:=zjV hlt;have hle:=znI ps (k+1);rw[HT,lA] at hle;generalize ps[k].1=u at hcell hob2;generalize ps[k].2=zs at HT hob2 hle;obtain⟨aa,cc,hsh⟩:=hob2.rd.shape;subst hsh;have HT2:Hid (catL (ps.take (k+1))=catL (ps.take k)++zs):=HT;clear hob HT;generalize catL (ps.take k)=ys at hov hle HT2;go_wp2_with (at_builtin;(refine zbi rfl _ _ rfl w.heap.size B _ _ ys zs rfl rfl hov hob2 (by omega) hbv.size ?_))
     intro v5 w5 ho5 hg5;have b5:=zaK hbv hov hg5 hbv.size;rw[← HT2.out] at ho5;clear hov hob2 hbv hg5 hle;go_wp2;go_roundw
     case rel=>exact⟨k+1,by omega,by go_num,ho5,b5⟩
     case measure=>simp[intOf];omega
    ·have hke:k=ps.length:=(by omega);subst hke;rw[List.take_length] at hov;go_wp2;go_ret;exact⟨_,rfl,hov,hbv⟩
theorem zmy{w:World}{ops:Array Oper}{o:Oper}{a:Act}{K:Act→World→Prop}{Q:Exit→Act→World→Prop}{E:Prop}(hgd:o.guard=none)(d:Nat)(hd:o.dst=some d)(cs:Array Value)(t:TypeId)(n:Nat)
 (hrun:(execOp a.eval o).run Tryz.prog w=.ok (.value (.slice (some ⟨w.heap.size,0,none⟩) n n)) (w.alloc (.cells cs t)))
 (h:∀ b W',Below w.heap.size w W'→w.heap.size≤b→(∀ j,W'.cell? ⟨b,j,none⟩=cs[j]?)→K (a.put (some d) (.slice (some ⟨b,0,none⟩) n n)) W') :
 if Region.wanted o (yielded ops a.tmps)=true then Oper.wp Tryz.prog o a w K Q else E:=by
 have hw:Region.wanted o (yielded ops a.tmps)=true:=by simp[Region.wanted,hgd]
 rw[if_pos hw];have h':=h w.heap.size _ (ze w (.cells cs t)) (nR _) (fun j=>by simp);rw[← hd] at h';unfold Oper.wp;rw[hrun];exact h'
theorem zoP{W:World}{b:Nat}{x0 x1 x2 x3:Value×List UInt8}(h:∀ j,W.cell? ⟨b,j,none⟩ = #[x0.1,x1.1,x2.1,x3.1][j]?):∀ i (h:i < [x0,x1,x2,x3].length),W.cell? ⟨b,0+i,none⟩=some [x0,x1,x2,x3][i].1
 | 0,_=>h 0
 | 1,_=>h 1
 | 2,_=>h 2
 | 3,_=>h 3
theorem fourOwn{W:World}{B0 B1 B2 B3:Nat}{x0 x1 x2 x3:Value×List UInt8}(h0:Own W B0 x0.1 x0.2)(h1:Own W B1 x1.1 x1.2)(h2:Own W B2 x2.1 x2.2)(h3:Own W B3 x3.1 x3.2):∀ p∈[x0,x1,x2,x3],∃ B,Own W B p.1 p.2:=by
 intro p hp;simp only[List.mem_cons,List.not_mem_nil,or_false] at hp;rcases hp with rfl | rfl | rfl | rfl
 ·exact⟨_,h0⟩
 ·exact⟨_,h1⟩
 ·exact⟨_,h2⟩
 ·exact⟨_,h3⟩
theorem fourCat(x0 x1 x2 x3:Value×List UInt8):catL [x0,x1,x2,x3]=x0.2++(x1.2++(x2.2++x3.2)):=by simp[catL]
theorem zdj(last:ByteArray)(y:Ent)(w:World)(hls:last.size≤40)(hok:okE y=true) :
 Calls Tryz.prog 131 #[.string last,.agg #[.string y.key,.string y.val,.int .i64 y.seq,.bool y.gone]] w fun e w'=>∃ u,e=.returned u∧Own w' w.heap.size u (packE last y)∧Below w.heap.size w w':=by
 obtain⟨hy1,hy2,hy3,hy4,hy5⟩:=zaQ hok;have HOY:Hid (okE y=true):=hok;have hst:=zn6 hok;clear hok;have hx0:=zau w y 40;have b0:=ze w (.cells #[.string y.key,.string y.val,.int .i64 y.seq,.bool y.gone] 40);have HE:Hid (packE last y=enc (com last y.key)++((enc (y.key.size-com last y.key)++y.key.data.toList.drop (com last y.key))++(enc (stp y)++(enc y.val.size++y.val.data.toList)))):=rfl;have hpl:=zeA (last:=last) HOY.out;have hcl:=zhc last y.key;obtain⟨P,hP⟩:∃ P,P=packE last y:=⟨_,rfl⟩;rw[← hP] at HE hpl ⊢;clear hP;obtain⟨c0,c1,c2,c3⟩:=id hx0;simp only[Nat.zero_add] at c1 c2 c3;go_enter Tryz.func131,Tryz.ntmps131
 go_wp2_with fail
 refine(zea _ _ _ (by omega) (by omega)).mono ?_;rintro e w3 ⟨rfl,n3,rfl⟩;have hx3:EntAt ((w.alloc (.cells #[.string y.key,.string y.val,.int .i64 y.seq,.bool y.gone] 40)).drewN n3) w.heap.size 0 y:=hx0;have b3:=below_drewN b0 n3;generalize com last y.key=c at hcl HE ⊢;clear hx0 b0 c0 c1 c2 c3;generalize (w.alloc (.cells #[.string y.key,.string y.val,.int .i64 y.seq,.bool y.gone] 40)).drewN n3=W3 at hx3 b3 ⊢;obtain⟨hcl1,hcl2⟩:=hcl;obtain⟨kr,hkr⟩:∃ kr,kr=y.key.extract c y.key.size:=⟨_,rfl⟩;have hk1:kr.size≤40:=by rw[hkr,ByteArray.size_extract];omega
 have HK1:Hid (enc kr.size++kr.data.toList=enc (y.key.size-c)++y.key.data.toList.drop c):=by rw[hkr];exact zgb y.key c
 have N1:Hid (num (c:Int)=enc c):=zhI _ (by omega) (by omega);have N2:Hid (zby kr=enc kr.size++kr.data.toList):=zko kr (by omega);have N3:Hid (num (stp y:Int)=enc (stp y)):=zhI _ (by omega) (by omega);have N4:Hid (zby y.val=enc y.val.size++y.val.data.toList):=zko y.val (by omega);have HPc:Hid (P=num (c:Int)++(zby kr++(num (stp y:Int)++zby y.val))):=by unfold Hid;rw[N1.out,N2.out,N3.out,N4.out,HK1.out,HE.out]
 clear N1 N2 N3 N4 HK1 HE;go_wp2_with fail
 refine brg (S:=fun w'=>EntAt w' w.heap.size 0 y) hx3 (fun hH=>?_);have qb:=b3.drew;clear b3 hx3;revert hH qb;generalize W3.drew=W0;intro hH qb;refine kA 0 10 hH ?_;refine kA 2 12 hH ?_;refine kA 3 13 hH ?_;refine kA 4 14 hH ?_;refine kA 5 15 hH ?_;refine kA 7 17 hH ?_;refine kA 10 20 hH ?_;refine kA 11 21 hH ?_;rw[← hkr];clear hkr;refine rdy 1 (fun K hK=>?_);go_simp;refine(zbK _ _).mono ?_;rintro e w1 ⟨u1,rfl,ho1,hb1⟩;replace qb:=qb.trans (hb1.mono qb.size);replace hH:=hH.below hb1;refine hK.out _ _ hH (fun h4=>?_);clear hK K h4;try simp only[Act.put,sA,sZ,sS]
 refine rdy 6 (fun K hK=>?_);go_simp;refine(zfv kr _ (by omega)).mono ?_;rintro e w2 ⟨u2,rfl,ho2,hb2⟩;replace qb:=qb.trans (hb2.mono qb.size);replace hH:=hH.below hb2;replace ho1:=ho1.below hb2;refine hK.out _ _ hH (fun h4=>?_);clear hK K h4;try simp only[Act.put,sA,sZ,sS]
 refine rdy 8 (fun K hK=>?_);go_simp;refine(zkq y _ HOY.out).mono ?_;rintro e w3 ⟨rfl,hb3⟩;replace qb:=qb.trans (hb3.mono qb.size);replace hH:=hH.below hb3;replace ho1:=ho1.below hb3;replace ho2:=ho2.below hb3;refine hK.out _ _ hH (fun h4=>?_);clear hK K h4;try simp only[Act.put,sA,sZ,sS]
 refine rdy 9 (fun K hK=>?_);go_simp;refine(zbK _ _).mono ?_;rintro e w4 ⟨u4,rfl,ho4,hb4⟩;replace qb:=qb.trans (hb4.mono qb.size);replace hH:=hH.below hb4;replace ho1:=ho1.below hb4;replace ho2:=ho2.below hb4;refine hK.out _ _ hH (fun h4=>?_);clear hK K h4;try simp only[Act.put,sA,sZ,sS]
 refine rdy 12 (fun K hK=>?_);go_simp;refine(zfv y.val _ (by omega)).mono ?_;rintro e w5 ⟨u5,rfl,ho5,hb5⟩;replace qb:=qb.trans (hb5.mono qb.size);replace hH:=hH.below hb5;replace ho1:=ho1.below hb5;replace ho2:=ho2.below hb5;replace ho4:=ho4.below hb5;refine hK.out _ _ hH (fun h4=>?_);clear hK K h4;try simp only[Act.put,sA,sZ,sS]
 obtain⟨a1,k1,hs1⟩:=ho1.rd.shape;obtain⟨a2,k2,hs2⟩:=ho2.rd.shape;obtain⟨a4,k4,hs4⟩:=ho4.rd.shape;obtain⟨a5,k5,hs5⟩:=ho5.rd.shape;refine rdy 13 (fun K hK=>?_);subst hs1;subst hs2;subst hs4;subst hs5;refine zmy rfl 23 rfl #[.slice a1 (num (c:Int)).length k1,.slice a2 (zby kr).length k2,.slice a4 (num (stp y:Int)).length k4,.slice a5 (zby y.val).length k5] 22 4 (by go_simp;(try rfl)) ?_;intro bP w6 hb6 hge hcl;replace qb:=qb.trans (hb6.mono qb.size);replace hH:=hH.below hb6;replace ho1:=ho1.below hb6;replace ho2:=ho2.below hb6;replace ho4:=ho4.below hb6;replace ho5:=ho5.below hb6;refine hK.out _ _ hH (fun h4=>?_);clear hK K h4;try simp only[Act.put,sA,sZ,sS]
 refine rdy 14 (fun K hK=>?_);go_simp;have HL:Hid (catL [(Value.slice a1 (num (c:Int)).length k1,num (c:Int)),(.slice a2 (zby kr).length k2,zby kr),(.slice a4 (num (stp y:Int)).length k4,num (stp y:Int)),(.slice a5 (zby y.val).length k5,zby y.val)]=P):=by unfold Hid;rw[fourCat,HPc.out]
 have hp0:0<P.length:=by
  rw[HPc.out,zhI (c:Int) (by omega) (by omega),lA];have:=zc7 (c:Int).toNat;omega
 refine(zmj [(Value.slice a1 (num (c:Int)).length k1,num (c:Int)),(.slice a2 (zby kr).length k2,zby kr),(.slice a4 (num (stp y:Int)).length k4,num (stp y:Int)),(.slice a5 (zby y.val).length k5,zby y.val)] bP 0 4 w6 (zoP hcl) (fourOwn ho1 ho2 ho4 ho5) (nR _) (by omega) (by rw[HL.out];exact hp0) (by rw[HL.out];omega)).mono ?_;rw[HL.out];rintro e w7 ⟨u7,rfl,ho7,hb7⟩;have s6:=qb.size;replace qb:=qb.trans (hb7.mono qb.size);replace hH:=hH.below hb7;refine hK.out _ _ hH (fun h4=>?_);clear hK K h4;try simp only[Act.put,sA,sZ,sS]
 refine kA 15 4 hH ?_;refine dne ?_;go_wp2;go_ret;exact⟨_,rfl,ho7.mono s6,qb⟩
theorem zg5(v:Value)(es:List Ent)(w:World)(hr:RdE w v es)(hf:∀ e∈es,Fits e) :
 Calls Tryz.prog 103 #[v] w fun e w'=>∃ u,e=.returned u∧Own w' w.heap.size u (packL es)∧Below w.heap.size w w':=by
 have HF:Hid (∀ e∈es,Fits e):=hf;clear hf;cases hok:okL es with
 | false =>
  rw[zlF hok];have HOK:Hid (okL es=false):=hok;clear hok;go_enter Tryz.func103,Tryz.ntmps103
  go_wp2_with fail
  refine(zdo v es _ hr HF.out HOK.out).mono ?_;rintro e w1 ⟨rfl,hb1⟩;go_wp2;go_ret;exact⟨_,rfl,(zcB w1).mono hb1.size,hb1.alloc hb1.size _⟩
 | true =>
  rw[zeW hok];obtain⟨a,cap,hv,hl,hm,_⟩:=id hr;unfold maxLen at hm;subst hv;have hlen:=zad hok;have HOK:Hid (okL es=true):=hok;clear hok;have N0:Hid (num (es.length:Int)=enc es.length):=zhI _ (by omega) (by omega);go_enter Tryz.func103,Tryz.ntmps103
  go_wp2_with fail
  refine(zcj _ es _ hr HF.out HOK.out).mono ?_;rintro e w0 ⟨rfl,hb0⟩;have hr0:=hr.below hb0;go_wp2_with fail
  refine(zbK _ _).mono ?_;rw[N0.out];rintro e w1 ⟨u1,rfl,ho1,hb1⟩;have he9:=zak es.length (by omega);have b1:=hb0.trans (hb1.mono hb0.size);replace ho1:=ho1.mono hb0.size;clear hb0 hb1 hr0;go_wp2;go_loopw [3,4,16] (fun v l i wr=>∃ (k:Nat) (last:ByteArray) (ys:List UInt8),k≤es.length∧i=.int .i64 k∧l=.string last∧last.size≤40∧Hid (ys++packF k last (es.drop k)=packA es)∧0<ys.length∧ys.length≤9+300*k∧Own wr w.heap.size v ys∧Below w.heap.size w wr) (fun _ _ i _=>es.length-(intOf i).toNat)
  case atStart=>exact⟨0,⟨#[]⟩,_,Nat.zero_le _,rfl,rfl,Nat.zero_le _,by unfold Hid packA;rfl,zc7 _,by omega,ho1,b1⟩
  case round =>
   obtain⟨k,last,ys,hk,rfl,rfl,hls,HP,hy0,hyl,ho,hb⟩:=hrel;clear ho1 b1;by_cases hlt:k<es.length
   ·obtain⟨b,off,rfl,hc⟩:=(hr.below hb).at rfl k hlt;obtain⟨y,hy⟩:∃ y,y=nth es k:=⟨_,rfl⟩;rw[← hy] at hc;have HY:Hid (y=nth es k):=hy;have hoky:okE y=true:=(by rw[hy];exact nth_ok HOK.out hlt);obtain⟨hy1,hy2,hy3,hy4,hy5⟩:=zaQ hoky;have HOY:Hid (okE y=true):=hoky;clear hy hoky;obtain⟨c0,c1,c2,c3⟩:=id hc;have hx2:=zau wr y 40;have b2:=hb.alloc hb.size (.cells #[.string y.key,.string y.val,.int .i64 y.seq,.bool y.gone] 40);have ho2:=ho.below (ze _ (.cells #[.string y.key,.string y.val,.int .i64 y.seq,.bool y.gone] 40));by_cases h8:k % 8=0
    ·have h8d:((k:Int) % 8==0)=true:=(by simp;omega);have HL:Hid (ahead k last=⟨#[]⟩):=(by unfold Hid ahead;rw[if_pos h8]);go_wp2_with fail
     refine(zdj _ y _ (Nat.zero_le _) HOY.out).mono ?_;obtain⟨P,hP⟩:∃ P,P=packE ⟨#[]⟩ y:=⟨_,rfl⟩;rw[← hP];have HPE:Hid (P=packE (ahead k last) y):=(by rw[HL.out];exact hP);clear hP;rintro e w3 ⟨u3,rfl,ho3,hb3⟩;have hpl:P.length≤300:=(by rw[HPE.out];exact zeA HOY.out);have b3:=b2.trans (hb3.mono b2.size);have ho4:=ho2.below hb3;have hx3:=hx2.below hb3;clear ho hb ho2 b2 hx2 hb3 c0 c1 c2 c3 hc;go_wp2_with (at_builtin;(refine zbi rfl _ _ rfl w.heap.size _ _ _ ys P rfl rfl ho4 ho3 (by omega) b3.size ?_))
     intro v5 w5 ho5 hg5;have hx5:=hx3.grew ho4 hy0 hg5;have b5:=zaK b3 ho4 hg5 b3.size;obtain⟨xs,hxs⟩:∃ xs,xs=ys++P:=⟨_,rfl⟩;rw[← hxs] at ho5;have hxl:xs.length≤9+300*(k+1):=(by rw[hxs];simp only[lA];omega);have hx0:0<xs.length:=(by rw[hxs];simp only[lA];omega);have HX:Hid (xs++packF (k+1) y.key (es.drop (k+1))=packA es):=by
      unfold Hid;rw[← HP.out,zfZ hlt,← HY.out,hxs,HPE.out];simp only[List.append_assoc]
     clear hxs HP HPE ho4 ho3 hg5 hx3 b3;obtain⟨d0,d1,d2,d3⟩:=id hx5;simp only[Nat.zero_add] at d1 d2 d3;go_wp2;go_roundw
     case rel=>exact⟨k+1,y.key,xs,by omega,by go_num,rfl,hy2,HX,hx0,hxl,ho5,b5⟩
     case measure=>simp[intOf];omega
    ·have h8d:((k:Int) % 8==0)=false:=(by simp;omega);have HL:Hid (ahead k last=last):=(by unfold Hid ahead;rw[if_neg h8]);go_wp2_with fail
     refine(zdj _ y _ hls HOY.out).mono ?_;obtain⟨P,hP⟩:∃ P,P=packE last y:=⟨_,rfl⟩;rw[← hP];have HPE:Hid (P=packE (ahead k last) y):=(by rw[HL.out];exact hP);clear hP;rintro e w3 ⟨u3,rfl,ho3,hb3⟩;have hpl:P.length≤300:=(by rw[HPE.out];exact zeA HOY.out);have b3:=b2.trans (hb3.mono b2.size);have ho4:=ho2.below hb3;have hx3:=hx2.below hb3;clear ho hb ho2 b2 hx2 hb3 c0 c1 c2 c3 hc;go_wp2_with (at_builtin;(refine zbi rfl _ _ rfl w.heap.size _ _ _ ys P rfl rfl ho4 ho3 (by omega) b3.size ?_))
     intro v5 w5 ho5 hg5;have hx5:=hx3.grew ho4 hy0 hg5;have b5:=zaK b3 ho4 hg5 b3.size;obtain⟨xs,hxs⟩:∃ xs,xs=ys++P:=⟨_,rfl⟩;rw[← hxs] at ho5;have hxl:xs.length≤9+300*(k+1):=(by rw[hxs];simp only[lA];omega);have hx0:0<xs.length:=(by rw[hxs];simp only[lA];omega);have HX:Hid (xs++packF (k+1) y.key (es.drop (k+1))=packA es):=by
      unfold Hid;rw[← HP.out,zfZ hlt,← HY.out,hxs,HPE.out];simp only[List.append_assoc]
     clear hxs HP HPE ho4 ho3 hg5 hx3 b3;obtain⟨d0,d1,d2,d3⟩:=id hx5;simp only[Nat.zero_add] at d1 d2 d3;go_wp2;go_roundw
     case rel=>exact⟨k+1,y.key,xs,by omega,by go_num,rfl,hy2,HX,hx0,hxl,ho5,b5⟩
     case measure=>simp[intOf];omega
   ·have hke:k=es.length:=(by omega);have HE:Hid (ys=packA es):=(by have h:=HP.out;rw[hke,zj6,List.append_nil] at h;exact h);clear HP;go_wp2;go_ret;exact⟨_,rfl,by rw[← HE.out];exact ho,hb⟩
open Go.RowKit
def allI(T:Tbl):List Ent×Bool:=if (allL T).2=true then allL T else ([],false)
theorem znR{T:Tbl}(h:allL T=([],false)):allI T=([],false):=by unfold allI;rw[h];rfl
theorem allI_is{T:Tbl}{es:List Ent}(h:allL T=(es,okL es)):allI T=if okL es=true then (es,true) else ([],false):=by
 unfold allI;rw[h];simp only;split
 ·rename_i h2;rw[h2]
 ·rfl
theorem zeF(T:Tbl)(vk:Value)(w:World)(hr:RdS w vk T.blocks)(hz:∀ s∈T.blocks,s.size≤1000000000) :
 Calls Tryz.prog 106 #[vk] w fun e w'=>zbW w (allI T) e w':=by
 obtain⟨ak,ck,hvk,hl,hm,_⟩:=id hr;obtain⟨kn,hkn⟩:∃ kn,kn=T.blocks.length:=⟨_,rfl⟩;have HKN:Hid (kn=T.blocks.length):=hkn;rw[← hkn] at hl hvk;subst hvk;clear hkn;unfold maxLen at hm;have HZ:Hid (∀ s∈T.blocks,s.size≤1000000000):=hz;clear hz;obtain⟨F,hF⟩:∃ F,F=allI T:=⟨_,rfl⟩;rw[← hF];have HF:Hid (F=allI T):=hF;clear hF;by_cases hbad:kn<1∨40<kn
 ·have RES:Hid (F=([],false)):=by unfold Hid;rw[HF.out];exact znR (by unfold allL;rw[← HKN.out,if_pos hbad])
  have hoE:=zX w;rcases hbad with hb1 | hb1
  ·have hd1:decide ((kn:Int)<1)=true:=(by simp;omega);go_enter Tryz.func106,Tryz.ntmps106
   go_wp2;go_ret2
   exact zE RES.out hoE (nR _) (ze _ _)
  ·have hd1:decide ((kn:Int)<1)=false:=(by simp;omega);have hd2:decide (40<(kn:Int))=true:=(by simp;omega);go_enter Tryz.func106,Tryz.ntmps106
   go_wp2;go_ret2
   exact zE RES.out hoE (nR _) (ze _ _)
 obtain⟨res,hres⟩:∃ res,res=allF T.blocks []:=⟨_,rfl⟩;have HR0:Hid (allF (T.blocks.drop 0) []=res):=by rw[List.drop_zero];exact hres.symm
 have R0:Hid (res=none→F=([],false)):=fun h=>by rw[HF.out];exact znR (by unfold allL;rw[← HKN.out,if_neg hbad,← hres,h])
 have R1:Hid (∀ es,res=some es→F=if okL es=true then (es,true) else ([],false)):=fun es h=>by rw[HF.out];exact allI_is (by unfold allL;rw[← HKN.out,if_neg hbad,← hres,h])
 clear hres HF;have hk1:1≤kn:=by omega
 have hk2:kn≤40:=by omega
 have hd1:decide ((kn:Int)<1)=false:=by simp;omega
 have hd2:decide (40<(kn:Int))=false:=by simp;omega
 have hoE:=zX w;have b1:=ze w (.cells #[] 40);clear hbad;go_enter Tryz.func106,Tryz.ntmps106
 go_wp2;go_loopw [4,21] (fun u i wr=>∃ (k:Nat) (es:List Ent),k≤kn∧i=.int .i64 k∧Hid (allF (T.blocks.drop k) es=res)∧es.length≤8*k∧Hid (∀ x∈es,Fits x)∧OwnE wr w.heap.size u es∧Below w.heap.size w wr) (fun _ i _=>kn-(intOf i).toNat)
 case atStart=>exact⟨0,[],Nat.zero_le _,rfl,HR0,Nat.zero_le _,(fun x hx=>by cases hx),hoE,b1⟩
 case round =>
  obtain⟨k,es,hk,rfl,HA,hel,HFT,ho,hb⟩:=hrel;clear hoE b1 HR0;by_cases hlt:k<kn
  ·have hltb:k<T.blocks.length:=(by rw[← HKN.out];exact hlt);obtain⟨b,off,rfl,hcs⟩:=(hr.below hb).at k hltb;obtain⟨s,hs⟩:∃ s,s=T.blocks[k]:=⟨_,rfl⟩;rw[← hs] at hcs;have hsz:s.size≤1000000000:=(by rw[hs];exact HZ.out _ (List.getElem_mem hltb));have HA2:Hid (allF (s::T.blocks.drop (k+1)) es=res):=(by rw[hs,← List.drop_eq_getElem_cons hltb];exact HA);clear hs HA;have hcb:=zdW wr s;have hrd:=zhZ wr s (by unfold maxLen;omega);have hbb:=zeu wr s;generalize Lib.bytesWorld wr 5 s=W at hcb hrd hbb;generalize grownCap wr s.size 0 5=c0 at hcb hrd;obtain⟨F2,hF2⟩:∃ F2,F2=unpI s.data.toList:=⟨_,rfl⟩;have HCU:Hid (Calls Tryz.prog 133 #[.slice (some ⟨wr.heap.size,0,none⟩) s.size c0] W fun e w'=>zbW W F2 e w'):=(by rw[hF2];exact zfM _ _ _ hrd);have HFF:Hid (∀ x∈F2.1,Fits x):=(by rw[hF2];exact zkh _);have HNO:Hid (¬ (F2.2=true∧1≤F2.1.length∧F2.1.length≤8)→F=([],false)):=fun h=>R0.out (by rw[← HA2.out];exact zo7 (by rw[← hF2];exact h))
   have HGO:Hid (F2.2=true∧1≤F2.1.length∧F2.1.length≤8→allF (T.blocks.drop (k+1)) (es++F2.1)=res):=fun h=>by rw[← HA2.out,zoE (by rw[← hF2];exact h),← hF2]
   clear hF2 hrd HA2;obtain⟨l,is⟩:=F2;have ho2:=ho.below hbb;have b2:=hb.trans (hbb.mono hb.size);clear ho hb hbb;go_wp2_with fail
   refine HCU.out.mono ?_;rintro e w3 ⟨ul,rfl,hl3,hb3⟩;simp only at hl3 HNO HGO HFF ⊢;have ho3:=ho2.below hb3;have b3:=b2.trans (hb3.mono b2.size);clear ho2 b2 hb3 HCU hcb hcs;obtain⟨al,cl,hvl,hl1,hl2,_⟩:=id hl3.rd;obtain⟨ln,hln⟩:∃ ln,ln=l.length:=⟨_,rfl⟩;rw[← hln] at hvl hl1 HNO HGO;have HLN:Hid (ln=l.length):=hln;subst hvl;unfold maxLen at hl2;clear hln;cases is with
   | false =>
    have RES:Hid (F=([],false)):=HNO.out (by simp);go_wp2;go_ret2
    exact zE RES.out (zL w3) b3.size (b3.alloc b3.size _)
   | true =>
    by_cases q1:ln<1
    ·skip
     have RES:Hid (F=([],false)):=HNO.out (by omega);have q1d:decide ((ln:Int)<1)=true:=(by simp;omega);go_wp2;go_ret2
     exact zE RES.out (zL w3) b3.size (b3.alloc b3.size _)
    ·have q1d:decide ((ln:Int)<1)=false:=(by simp;omega);by_cases q2:8<ln
     ·skip
      have RES:Hid (F=([],false)):=HNO.out (by omega);have q2d:decide (8<(ln:Int))=true:=(by simp;omega);go_wp2;go_ret2
      exact zE RES.out (zL w3) b3.size (b3.alloc b3.size _)
     ·skip
      have q2d:decide (8<(ln:Int))=false:=(by simp;omega);have HA4:Hid (allF (T.blocks.drop (k+1)) (es++l)=res):=HGO.out ⟨rfl,by omega,by omega⟩;have HFT4:Hid (∀ x∈es++l,Fits x):=fun x hx=>by
       rcases List.mem_append.1 hx with h | h
       ·exact HFT.out x h
       ·exact HFF.out x h
      have hel4:(es++l).length≤8*(k+1):=(by rw[lA,← HLN.out];omega);go_wp2_with (at_builtin;(refine zp rfl _ _ rfl w.heap.size _ _ es l rfl rfl ho3 hl3.rd (by rw[← HLN.out];omega) b3.size ?_))
      intro v5 w5 ho5 hg5;have b5:=b3.grown hg5 b3.size (fun j hj=>(oL ho3 j hj).1);clear ho3 b3 hl3 hg5;go_wp2;go_roundw
      case rel=>exact⟨k+1,es++l,by omega,by go_num,HA4,hel4,HFT4,ho5,b5⟩
      case measure=>simp[intOf];omega
  ·skip
   have hke:k=kn:=(by omega);have RES:Hid (F=if okL es=true then (es,true) else ([],false)):=R1.out es (by have:=HA.out;rw[hke,HKN.out,List.drop_eq_nil_of_le (nR _),allF] at this;exact this.symm);have hlt2:¬ (k:Int)<(kn:Int):=(by omega);clear hke HA;have HCE:=zaz u4 es wr ho.rd HFT.out;cases hok:okL es with
   | false =>
    rw[hok] at HCE;have RES2:Hid (F=([],false)):=(by have:=RES.out;rw[hok] at this;exact this);have HC2:Hid (Calls Tryz.prog 61 #[u4] wr fun e w'=>e=.returned (.bool false)∧Below wr.heap.size wr w'):=HCE;clear hok HCE RES;go_wp2_with fail
    refine HC2.out.mono ?_;rintro e w3 ⟨rfl,hb3⟩;have b3:=hb.trans (hb3.mono hb.size);clear HC2;go_wp2;go_ret2
    exact zE RES2.out (zL w3) b3.size (b3.alloc b3.size _)
   | true =>
    rw[hok] at HCE;have RES2:Hid (F=(es,true)):=(by have:=RES.out;rw[hok] at this;exact this);have HC2:Hid (Calls Tryz.prog 61 #[u4] wr fun e w'=>e=.returned (.bool true)∧Below wr.heap.size wr w'):=HCE;clear hok HCE RES;go_wp2_with fail
    refine HC2.out.mono ?_;rintro e w3 ⟨rfl,hb3⟩;have ho3:=ho.below hb3;have b3:=hb.trans (hb3.mono hb.size);clear HC2;go_wp2;go_ret2
    exact zdf RES2.out ho3 (nR _) b3
theorem zcz{w:World}{ops:Array Oper}{rest:List Oper}{o:Oper}{a:Act}{Q:Exit→Act→World→Prop}(hgd:o.guard=none)(s x:Operand)
 (ho:o.op=.call { callee:=.builtin .append,args:=#[s,x],argTypes:=#[42,42] }) (base bP:Nat) (v:Value) (ys:List ByteArray) (y:ByteArray) (hs:a.eval s=v) (hx:a.eval x=.slice (some ⟨bP,0,none⟩) 1 1) (hown:OwnS w base v ys) (hc:w.cell? ⟨bP,0,none⟩=some (.string y)) (hl:ys.length≤1000000) (hbase:base≤w.heap.size)
 (h:∀ v' w',OwnS w' base v' (ys++[y])→w.grownBy w' v.ownBlock→wpList Tryz.prog ops Q rest (a.put o.dst v') w'):wpList Tryz.prog ops Q (o::rest) a w:=by
 refine wpList_plain hgd fun K hK=>?_
 obtain⟨v',w',hrun,r1,r2⟩:=zdy o.type hown hc hl hbase;unfold Oper.wp;simp[execOp,ho,resolve,invoke,builtin,hs,hx,hrun,Result.andThen];exact hK _ _ (h v' w' r1 r2)
theorem zpr(es:List Ent)(i j:Nat)(hj:j=min (i+8) es.length):(es.take j).drop i=chunk es i:=by
 unfold chunk;have:es.take j=es.take (i+8):=by
  rw[hj];by_cases h:i+8≤es.length
  ·rw[Nat.min_eq_left h]
  ·rw[Nat.min_eq_right (by omega),List.take_of_length_le (nR _),List.take_of_length_le (by omega)]
 rw[this,List.drop_take];congr 1
 omega
theorem zfN(v:Value)(es:List Ent)(w:World)(hr:RdE w v es)(hok:okL es=true) :
 Calls Tryz.prog 64 #[v] w fun e w'=>∃ u,e=.returned u∧OwnS w' w.heap.size u (blksL es)∧Below w.heap.size w w':=by
 have hlen:=zad hok;have HF:Hid (∀ e∈es,Fits e):=zgY hok;have HOK:Hid (okL es=true):=hok;clear hok;obtain⟨a,cap,hv,hl,hm,_⟩:=id hr;obtain⟨nn,hnn⟩:∃ nn,nn=es.length:=⟨_,rfl⟩;have HNN:Hid (nn=es.length):=hnn;rw[← hnn] at hv hl hlen;subst hv;unfold maxLen at hm;obtain⟨R,hR⟩:∃ R,R=blksL es:=⟨_,rfl⟩;rw[← hR];have HR:Hid ([]++blkF es ((nn+7) / 8) (8*0)=R):=by rw[hR,hnn];rfl
 clear hR hnn;have ho0:=zgP w;have hb0:=ze w (.cells #[] 9);go_enter Tryz.func64,Tryz.ntmps64
 go_wp2;go_loopg [3,4] ((nn+7) / 8) (fun gg u i wr=>∃ (k:Nat) (ss:List ByteArray),k+gg=(nn+7) / 8∧i=.int .i64 ((8*k:Nat):Int)∧Hid (ss++blkF es gg (8*k)=R)∧ss.length=k∧OwnS wr w.heap.size u ss∧Below w.heap.size w wr)
 case atStart=>exact⟨0,[],by omega,rfl,HR,rfl,ho0,hb0⟩
 case round =>
  obtain⟨k,ss,hkg,rfl,HB,hsl,ho,hb⟩:=hrel;clear ho0 hb0 HR;obtain⟨q,hq⟩:∃ q,q=8*k:=⟨_,rfl⟩;rw[← hq] at HB ⊢;have HQ:Hid (q=8*k):=hq;have HSL:Hid (ss.length=k):=hsl;have HKG:Hid (k+gk=(nn+7) / 8):=hkg;clear hq hsl hkg;by_cases hlt:q<nn
  ·cases gk with
   | zero=>exfalso;have:=HQ.out;have:=HKG.out;omega
   | succ gg =>
    obtain⟨j,hj⟩:∃ j,j=min (q+8) nn:=⟨_,rfl⟩;have hj1:q≤j:=(by omega);have hj2:j≤nn:=(by omega);have HCC:Hid ((es.take j).drop q=chunk es q):=zpr es q j (by rw[← HNN.out];exact hj);have HCO:Hid (okL (chunk es q)=true):=zlK HOK.out q;have HCF:Hid (∀ e∈chunk es q,Fits e):=zgY HCO.out;have HC0:Hid (∀ W,RdE W (.slice a nn cap) es→Calls Tryz.prog 78 #[.slice a nn cap,.int .i64 q,.int .i64 (j:Int)] W fun e w'=>∃ u,e=.returned u∧(∀ W',RdE W' (.slice a nn cap) es→RdE W' u (chunk es q))∧w'=W):=fun W h=>by
     have:=znL _ es q j W h hj1 (by rw[← HNN.out];exact hj2);rwa [HCC.out] at this
    have HP:Hid (∀ W u,RdE W u (chunk es q)→Calls Tryz.prog 103 #[u] W fun e w'=>∃ u',e=.returned u'∧Own w' W.heap.size u' (packA (chunk es q))∧Below W.heap.size W w'):=fun W u h=>by
     have:=zg5 u _ W h HCF.out;rwa [zeW HCO.out] at this
    have HB2:Hid (ss++[⟨(packA (chunk es q)).toArray⟩]++blkF es gg (8*(k+1))=R):=by
     have:=HB.out;rw[zoz] at this;rw[List.append_assoc,show 8*(k+1)=q+8 by have:=HQ.out;omega];exact this
    have hjc:(q+8≤nn∧(j:Int)=(q:Int)+8)∨(nn<q+8∧(j:Int)=(nn:Int)):=(by omega);clear HB HCC hj hj1 hj2;generalize packA (chunk es q)=bs at HP HB2;have hrr:=hr.below hb;rcases hjc with ⟨hjc,hje⟩ | ⟨hjc,hje⟩
    ·have HC:Hid (∀ W,RdE W (.slice a nn cap) es→Calls Tryz.prog 78 #[.slice a nn cap,.int .i64 q,.int .i64 ((q:Int)+8)] W fun e w'=>∃ u,e=.returned u∧(∀ W',RdE W' (.slice a nn cap) es→RdE W' u (chunk es q))∧w'=W):=(by rw[← hje];exact HC0);clear HC0 hje;go_wp2_with fail
     refine(HC.out _ hrr).mono ?_;rintro e w2 ⟨u2,rfl,hru,rfl⟩;have hru2:=hru _ hrr;go_wp2_with fail
     refine(HP.out _ _ hru2).mono ?_;rintro e w4 ⟨u4,rfl,ho4,hb4⟩;have hcv:=zcv ho4;have hs4:=ho.below hb4;have b4:=hb.trans (hb4.mono hb.size);clear hrr hru hru2 ho hb hb4 HC HP;go_wp2_with (at_builtin;(refine zcz rfl _ _ rfl w.heap.size w4.heap.size _ ss ⟨bs.toArray⟩ rfl rfl (hs4.below (ze _ _)) (by simp) (by have:=HSL.out;have:=HKG.out;omega) (by have:=b4.size;simp;omega) ?_))
     intro v5 w5 ho5 hg5;have b5:=zgD hs4 (nR _) b4 b4.size hg5;clear hg5 hs4 b4 ho4 hcv;have HQ2:Hid ((q:Int)+8=((8*(k+1):Nat):Int)):=(by have:=HQ.out;unfold Hid;omega);go_wp2;go_roundg gg
     case rel=>exact⟨k+1,ss++[⟨bs.toArray⟩],by have:=HKG.out;omega,by rw[← HQ2.out],HB2,by rw[lA,HSL.out];rfl,ho5,b5⟩
     case measure=>omega
    ·have HC:Hid (∀ W,RdE W (.slice a nn cap) es→Calls Tryz.prog 78 #[.slice a nn cap,.int .i64 q,.int .i64 (nn:Int)] W fun e w'=>∃ u,e=.returned u∧(∀ W',RdE W' (.slice a nn cap) es→RdE W' u (chunk es q))∧w'=W):=(by rw[← hje];exact HC0);clear HC0 hje;go_wp2_with fail
     refine(HC.out _ hrr).mono ?_;rintro e w2 ⟨u2,rfl,hru,rfl⟩;have hru2:=hru _ hrr;go_wp2_with fail
     refine(HP.out _ _ hru2).mono ?_;rintro e w4 ⟨u4,rfl,ho4,hb4⟩;have hcv:=zcv ho4;have hs4:=ho.below hb4;have b4:=hb.trans (hb4.mono hb.size);clear hrr hru hru2 ho hb hb4 HC HP;go_wp2_with (at_builtin;(refine zcz rfl _ _ rfl w.heap.size w4.heap.size _ ss ⟨bs.toArray⟩ rfl rfl (hs4.below (ze _ _)) (by simp) (by have:=HSL.out;have:=HKG.out;omega) (by have:=b4.size;simp;omega) ?_))
     intro v5 w5 ho5 hg5;have b5:=zgD hs4 (nR _) b4 b4.size hg5;clear hg5 hs4 b4 ho4 hcv;have HQ2:Hid ((q:Int)+8=((8*(k+1):Nat):Int)):=(by have:=HQ.out;unfold Hid;omega);go_wp2;go_roundg gg
     case rel=>exact⟨k+1,ss++[⟨bs.toArray⟩],by have:=HKG.out;omega,by rw[← HQ2.out],HB2,by rw[lA,HSL.out];rfl,ho5,b5⟩
     case measure=>omega
  ·have HE:Hid (ss=R):=by
    have h0:gk=0:=(by have:=HKG.out;have:=HQ.out;omega);have:=HB.out;rw[h0,blkF,List.append_nil] at this;exact this
   have hke:¬ (q:Int)<(nn:Int):=(by omega);clear HB;go_wp2;go_ret;exact⟨_,rfl,by rw[← HE.out];exact ho,hb⟩
def mw(M j:Nat):Nat:=M / 2 ^ (64*j) % 2 ^ 64
def mset(M n:Nat):Nat:=M ||| 2 ^ n
theorem mw_lt(M j:Nat):mw M j<18446744073709551616:=Nat.mod_lt _ (by decide)
theorem zjv(M j i:Nat):(mw M j).testBit i=(decide (i<64)&&M.testBit (64*j+i)):=by
 unfold mw;rw[Nat.testBit_mod_two_pow,Nat.testBit_div_two_pow,Nat.add_comm]
theorem zc8(M n i:Nat):(mset M n).testBit i=(M.testBit i||decide (n=i)):=by
 unfold mset;rw[Nat.testBit_or,Nat.testBit_two_pow]
theorem zpw{M n:Nat}(h:M<2 ^ 256)(hn:n<256):mset M n<2 ^ 256:=Nat.or_lt_two_pow h (Nat.pow_lt_pow_right (by omega) hn)
theorem zpA{M n:Nat}:mw (mset M n) (n / 64)=mw M (n / 64) ||| 2 ^ (n % 64):=by
 apply Nat.eq_of_testBit_eq;intro i;rw[zjv,zc8,Nat.testBit_or,zjv,Nat.testBit_two_pow];by_cases hi:i<64
 ·simp only[hi,decide_true,Bool.true_and];congr 1
  apply decide_eq_decide.2;omega
 ·have:¬ n % 64=i:=by omega
  simp[hi,this]
theorem zoJ{M n j:Nat}(h:n / 64≠j):mw (mset M n) j=mw M j:=by
 apply Nat.eq_of_testBit_eq;intro i;rw[zjv,zc8,zjv];by_cases hi:i<64
 ·have:¬ n=64*j+i:=by omega
  simp[this]
 ·simp[hi]
theorem mw_ext{M N:Nat}(hM:M<2 ^ 256)(hN:N<2 ^ 256)(h0:mw M 0=mw N 0)(h1:mw M 1=mw N 1)(h2:mw M 2=mw N 2)(h3:mw M 3=mw N 3):M=N:=by
 apply Nat.eq_of_testBit_eq;intro i;by_cases hi:i<256
 ·have hj:∀ j,mw M j=mw N j→i / 64=j→M.testBit i=N.testBit i:=by
   intro j hj e;have:=congrArg (fun x=>x.testBit (i % 64)) hj;simp only[zjv] at this;have h64:i % 64<64:=Nat.mod_lt _ (by omega);have e2:64*j+i % 64=i:=(by omega);rw[e2] at this;simpa [h64] using this
  have:i / 64=0∨i / 64=1∨i / 64=2∨i / 64=3:=by omega
  rcases this with e | e | e | e
  ·exact hj 0 h0 e
  ·exact hj 1 h1 e
  ·exact hj 2 h2 e
  ·exact hj 3 h3 e
 ·rw[Nat.testBit_lt_two_pow (Nat.lt_of_lt_of_le hM (Nat.pow_le_pow_right (by omega) (by omega))),Nat.testBit_lt_two_pow (Nat.lt_of_lt_of_le hN (Nat.pow_le_pow_right (by omega) (by omega)))]
theorem zop{M n:Nat}:M=mset M n↔M.testBit n=true:=by
 constructor
 ·intro h;rw[h,zc8];simp
 ·intro h;apply Nat.eq_of_testBit_eq;intro i;rw[zc8];by_cases e:n=i
  ·subst e;simp[h]
  ·simp[e]
def mOf(ns:List Int):Nat:=ns.foldl (fun M n=>mset M n.toNat) 0
def okM(ns:List Int):Prop:=∀ n∈ns,0≤n∧n<256
theorem mF_bit(ns:List Int)(h:okM ns):∀ (M i:Nat),(ns.foldl (fun M n=>mset M n.toNat) M).testBit i=true↔M.testBit i=true∨(i:Int)∈ns:=by
 induction ns with
 | nil=>intro M i;simp
 | cons n r ih =>
  intro M i;have hn:=h n List.mem_cons_self;rw[List.foldl_cons,ih (fun x hx=>h x (List.mem_cons_of_mem _ hx)),zc8,List.mem_cons,Bool.or_eq_true,decide_eq_true_eq];constructor
  ·rintro ((h | h) | h)
   ·exact .inl h
   ·exact .inr (.inl (by omega))
   ·exact .inr (.inr h)
  ·rintro (h | h | h)
   ·exact .inl (.inl h)
   ·exact .inl (.inr (by omega))
   ·exact .inr h
theorem zh9{ns:List Int}(h:okM ns)(i:Nat):(mOf ns).testBit i=true↔(i:Int)∈ns:=by
 unfold mOf;rw[mF_bit ns h];simp
theorem mF_lt(ns:List Int)(h:okM ns):∀ M,M<2 ^ 256→ns.foldl (fun M n=>mset M n.toNat) M<2 ^ 256:=by
 induction ns with
 | nil=>intro M hM;exact hM
 | cons n r ih =>
  intro M hM;have hn:=h n List.mem_cons_self;rw[List.foldl_cons];exact ih (fun x hx=>h x (List.mem_cons_of_mem _ hx)) _ (zpw hM (by omega))
theorem mOf_lt{ns:List Int}(h:okM ns):mOf ns<2 ^ 256:=mF_lt ns h 0 (by decide)
theorem zlA:∀ (a b:List Int),a.Pairwise (· < ·)→b.Pairwise (· < ·)→(∀ x,x∈a↔x∈b)→a=b
 | [],b,_,_,h=>by
  cases b with
  | nil=>rfl
  | cons y s=>have:=(h y).2 List.mem_cons_self;cases this
 | x::r,[],_,_,h=>by have:=(h x).1 List.mem_cons_self;cases this
 | x::r,y::s,ha,hb,h=>by
  rw[List.pairwise_cons] at ha hb;have hxy:x=y:=by
   have h1:=(h x).1 List.mem_cons_self;have h2:=(h y).2 List.mem_cons_self;rcases List.mem_cons.1 h1 with e | h1
   ·exact e
   ·rcases List.mem_cons.1 h2 with e | h2
    ·exact e.symm
    ·have:=hb.1 x h1;have:=ha.1 y h2;omega
  subst hxy;rw[zlA r s ha.2 hb.2];intro z;have:=h z;rw[List.mem_cons,List.mem_cons] at this;constructor
  ·intro hz;rcases this.1 (.inr hz) with e | e
   ·have:=ha.1 z hz;omega
   ·exact e
  ·intro hz;rcases this.2 (.inr hz) with e | e
   ·have:=hb.1 z hz;omega
   ·exact e
def za8(M:Nat):Nat→Nat→List Int
 | 0,_=>[]
 | g+1,k=>if M.testBit k=true then (k:Int)::za8 M g (k+1) else za8 M g (k+1)
theorem zfn(M:Nat):∀ (g k:Nat) (x:Int),x∈za8 M g k↔∃ i:Nat,k≤i∧i<k+g∧x=(i:Int)∧M.testBit i=true
 | 0,k,x=>by rw[za8];constructor;(intro h;cases h);(rintro ⟨i,h1,h2,_⟩;omega)
 | g+1,k,x=>by
  rw[za8];have ih:=zfn M g (k+1) x;have key:(∃ i:Nat,k≤i∧i<k+(g+1)∧x=(i:Int)∧M.testBit i=true)↔(x=(k:Int)∧M.testBit k=true)∨x∈za8 M g (k+1):=by
   rw[ih];constructor
   ·rintro ⟨i,h1,h2,h3,h4⟩;by_cases e:i=k
    ·subst e;exact .inl ⟨h3,h4⟩
    ·exact .inr ⟨i,by omega,by omega,h3,h4⟩
   ·rintro (⟨h1,h2⟩ | ⟨i,h1,h2,h3,h4⟩)
    ·exact⟨k,by omega,by omega,h1,h2⟩
    ·exact⟨i,by omega,by omega,h3,h4⟩
  rw[key];by_cases hb:M.testBit k=true
  ·rw[if_pos hb,List.mem_cons];simp[hb]
  ·rw[if_neg hb];simp[hb]
theorem zev(M:Nat):∀ (g k:Nat),(za8 M g k).Pairwise (· < ·)
 | 0,k=>by rw[za8];exact List.Pairwise.nil
 | g+1,k=>by
  rw[za8];split
  ·refine List.pairwise_cons.2 ⟨fun x hx=>?_,zev M g (k+1)⟩;obtain⟨i,h1,h2,rfl,_⟩:=(zfn M g (k+1) x).1 hx;omega
  ·exact zev M g (k+1)
theorem zfl{ns:List Int}(h:okM ns)(hr:ns.Pairwise (· < ·)):za8 (mOf ns) 256 0=ns:=by
 refine zlA _ _ (zev _ _ _) hr fun x=>?_
 rw[zfn];constructor
 ·rintro ⟨i,_,_,rfl,hb⟩;exact(zh9 h i).1 hb
 ·intro hx;have:=h x hx;refine⟨x.toNat,by omega,by omega,by omega,(zh9 h _).2 ?_⟩;rw[Int.toNat_of_nonneg this.1];exact hx
def za5:Int→List Int→Bool
 | _,[]=>true
 | a,n::r=>!(decide (n≤a)||decide (256≤n))&&za5 n r
theorem zcw:∀ (ns:List Int) (a:Int),za5 a ns=true↔(∀ n∈ns,a<n∧n<256)∧ns.Pairwise (· < ·)
 | [],a=>by simp[za5]
 | n::r,a=>by
  rw[za5,Bool.and_eq_true,zcw r n,List.pairwise_cons];simp only[Bool.not_eq_true',Bool.or_eq_false_iff,decide_eq_false_iff_not,List.mem_cons];constructor
  ·rintro ⟨⟨h1,h2⟩,h3,h4⟩;refine⟨?_,fun x hx=>(h3 x hx).1,h4⟩;rintro x (rfl | hx)
   ·omega
   ·have:=h3 x hx;omega
  ·rintro ⟨h1,h2,h3⟩;have:=h1 n (.inl rfl);refine⟨⟨by omega,by omega⟩,fun x hx=>⟨h2 x hx,(h1 x (.inr hx)).2⟩,h3⟩
def mBits(ns:List Int):Nat:=if za5 (-1) ns=true then mOf ns else 0
theorem mBits_eq{ns bs:List Int}(h:okM bs)(hr:bs.Pairwise (· < ·))(h0:bs≠[]):mBits ns=mOf bs↔ns=bs:=by
 constructor
 ·intro e;unfold mBits at e;split at e
  ·rename_i hn;rw[zcw] at hn;have hn1:okM ns:=fun n hm=>⟨by have:=(hn.1 n hm).1;omega,(hn.1 n hm).2⟩
   rw[← zfl hn1 hn.2,e,zfl h hr]
  ·exfalso;cases bs with
   | nil=>exact h0 rfl
   | cons b r =>
    have hb:=h b List.mem_cons_self;have:=(zh9 h b.toNat).2 (by rw[Int.toNat_of_nonneg hb.1];exact List.mem_cons_self);rw[← e] at this;simp at this
 ·rintro rfl;unfold mBits;rw[if_pos];rw[zcw];exact⟨fun n hm=>⟨by have:=(h n hm).1;omega,(h n hm).2⟩,hr⟩
theorem zph{ns:List Int}(h:ns.Pairwise (· < ·))(n:Int):(putI ns n).Pairwise (· < ·):=by
 unfold putI;split
 ·exact h
 ·rename_i hne;rw[List.pairwise_append,List.pairwise_cons];have hlt:∀ x∈ns.take (atI ns n),x<n:=by
   intro x hx;obtain⟨i,hi,rfl⟩:=List.getElem_of_mem hx;rw[List.length_take] at hi;rw[List.getElem_take];exact zpz ns n i (by omega) (by omega)
  have hgt:∀ x∈ns.drop (atI ns n),n<x:=by
   intro x hx;obtain⟨i,hi,rfl⟩:=List.getElem_of_mem hx;rw[List.length_drop] at hi;rw[List.getElem_drop];have h0:atI ns n<ns.length:=(by omega);have h1:=zil ns n h0;have h2:ns[atI ns n]≠n:=by
    intro e;exact hne (by rw[List.getElem?_eq_getElem h0,e])
   by_cases hz:i=0
   ·subst hz;simp only[Nat.add_zero];omega
   ·have:=List.pairwise_iff_getElem.1 h (atI ns n) (atI ns n+i) h0 (by omega) (by omega);omega
  refine⟨h.sublist (List.take_sublist _ _),⟨hgt,h.sublist (List.drop_sublist _ _)⟩,?_⟩;intro a ha b hb;rcases List.mem_cons.1 hb with rfl | hb
  ·exact hlt a ha
  ·have:=hlt a ha;have:=hgt b hb;omega
theorem zkU(ms:List Int):∀ {ns:List Int},ns.Pairwise (· < ·)→(zaM ns ms).Pairwise (· < ·):=by
 unfold zaM;induction ms with
 | nil=>intro ns h;exact h
 | cons m r ih=>intro ns h;rw[List.foldl_cons];exact ih (zph h m)
theorem zmu(es:List Ent):∀ {ns:List Int},ns.Pairwise (· < ·)→(es.foldl (fun b e=>zaM b (zaS e.key)) ns).Pairwise (· < ·):=by
 induction es with
 | nil=>intro ns h;exact h
 | cons e r ih=>intro ns h;rw[List.foldl_cons];exact ih (zkU _ h)
theorem zhB(es:List Ent):(bitsL es).Pairwise (· < ·):=zmu es List.Pairwise.nil
theorem ze2(es:List Ent):okM (bitsL es):=by
 intro n hn;obtain⟨e,_,h⟩:=(ze4 es n).1 hn;rcases (zdP e.key n).1 h with rfl | rfl
 ·exact mk2_in e.key
 ·exact mk1_in e.key
theorem bitsL_ne{es:List Ent}(h:es≠[]):bitsL es≠[]:=by
 cases es with
 | nil=>exact absurd rfl h
 | cons e r =>
  intro hn;have:=(ze4 (e::r) (mk1 e.key)).2 ⟨e,List.mem_cons_self,(zdP _ _).2 (.inr rfl)⟩;rw[hn] at this;cases this
def mkey(M:Nat)(key:ByteArray):Nat:=mset (mset M (dig 1 key.data.toList % 256)) (dig 1 (key.data.toList++[42]) % 256)
theorem mkey_bit(M:Nat)(key:ByteArray)(i:Nat):(mkey M key).testBit i=true↔M.testBit i=true∨(i:Int)∈zaS key:=by
 unfold mkey;rw[zc8,zc8,zdP];unfold mk1 mk2;simp only[Bool.or_eq_true,decide_eq_true_eq];constructor
 ·rintro ((h | h) | h)
  ·exact .inl h
  ·exact .inr (.inr (by omega))
  ·exact .inr (.inl (by omega))
 ·rintro (h | h | h)
  ·exact .inl (.inl h)
  ·exact .inr (by omega)
  ·exact .inl (.inr (by omega))
def mKeys(es:List Ent):Nat:=es.foldl (fun M e=>mkey M e.key) 0
theorem mKF_bit(es:List Ent):∀ (M i:Nat),(es.foldl (fun M e=>mkey M e.key) M).testBit i=true↔M.testBit i=true∨∃ e∈es,(i:Int)∈zaS e.key:=by
 induction es with
 | nil=>intro M i;simp
 | cons e r ih =>
  intro M i;rw[List.foldl_cons,ih,mkey_bit];constructor
  ·rintro ((h | h) | ⟨y,hy,h⟩)
   ·exact .inl h
   ·exact .inr ⟨e,List.mem_cons_self,h⟩
   ·exact .inr ⟨y,List.mem_cons_of_mem _ hy,h⟩
  ·rintro (h | ⟨y,hy,h⟩)
   ·exact .inl (.inl h)
   ·rcases List.mem_cons.1 hy with rfl | hy
    ·exact .inl (.inr h)
    ·exact .inr ⟨y,hy,h⟩
theorem zhS(es:List Ent):mKeys es=mOf (bitsL es):=by
 apply Nat.eq_of_testBit_eq;intro i;rw[Bool.eq_iff_iff,zh9 (ze2 es),ze4];unfold mKeys;rw[mKF_bit];simp
theorem zl9(es:List Ent):mKeys es<2 ^ 256:=by rw[zhS];exact mOf_lt (ze2 es)
theorem zjQ(es:List Ent):za8 (mKeys es) 256 0=bitsL es:=by rw[zhS,zfl (ze2 es) (zhB es)]
theorem zmw{ns:List Int}{es:List Ent}(h:es≠[]):mBits ns=mKeys es↔ns=bitsL es:=by rw[zhS];exact mBits_eq (ze2 es) (zhB es) (bitsL_ne h)
theorem mBits_lt(ns:List Int):mBits ns<2 ^ 256:=by
 unfold mBits;split
 ·rename_i h;rw[zcw] at h;exact mOf_lt fun n hm=>⟨by have:=(h.1 n hm).1;omega,(h.1 n hm).2⟩
 ·decide
end Go.Proofs.YtjlnchhgkfnldaaGreat
