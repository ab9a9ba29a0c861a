import Derived.Test.YtannfbpohhnnkaaGreatDoorG05
import Derived.Deep.LoopGhost
import Derived.BigQuiet
namespace Go.Proofs.YtannfbpohhnnkaaGreatDoor
set_option maxHeartbeats 16000000
set_option maxRecDepth 100000
open Go.RowKit
theorem putI_hit{ns:List Int}{n:Int}{k:Nat}(hk:k<ns.length)(h1:∀ i (h:i<ns.length),i<k→ns[i]<n)(h2:ns[k]=n):putI ns n=ns:=by
 have:atI ns n=k:=atI_of ns n k (by omega) h1 (fun h=>by omega);unfold putI;rw[this,if_pos (by rw[List.getElem?_eq_getElem hk,h2])]
theorem zmU{ns:List Int}{n:Int}{k:Nat}(hk:k≤ns.length)(h1:∀ i (h:i<ns.length),i<k→ns[i]<n)(h2:∀ (h:k<ns.length),n<ns[k]):putI ns n=[]++ns.take k++[n]++ns.drop k:=by
 have:atI ns n=k:=atI_of ns n k hk h1 (fun h=>by have:=h2 h;omega);unfold putI;rw[this,if_neg]
 ·simp
 ·intro e;obtain⟨h,e⟩:=List.getElem?_eq_some_iff.1 e;have:=h2 h;omega
theorem zmv{w:World}{b n cap k:Nat}{ns:List Int}(h:RdI w (.slice (some ⟨b,0,none⟩) n cap) ns)(hk:k≤ns.length):RdI w (.slice (if cap=k then some ⟨b,0,none⟩ else some ⟨b,k,none⟩) (ns.length-k) (cap-k)) (ns.drop k):=by
 have:=rdI_cut h hk;rwa [Nat.zero_add] at this
theorem zjy(g cap:Nat)(ns:List Int)(n:Int)(B:Nat)(w:World)(ho:OwnI w B (.slice (some ⟨g,0,none⟩) ns.length cap) ns)(hn:ns.length≤1000000)(hB:B≤w.heap.size) :
 Calls Tryz.prog 180 #[.slice (some ⟨g,0,none⟩) ns.length cap,.int .i64 n] w fun e w'=>∃ u,e=.returned u∧OwnI w' B u (putI ns n)∧Below w.heap.size w w':=by
 obtain⟨a',cap',hv',hl,hm,_,hcell⟩:=id ho.rd;simp only[Value.slice.injEq] at hv';obtain⟨rfl,_,rfl⟩:=hv';have hgl:g<w.heap.size:=zqE ho g rfl;have hm0:=hm;unfold maxLen at hm;have HC:Hid (∀ i (h:i<ns.length),w.cell? ⟨g,0+i,none⟩=some (.int .i64 ns[i])):=fun i hi=>by
  obtain⟨b,off,hb,hc⟩:=ho.rd.at i hi;cases hb
  exact hc
 clear hcell;go_enter Tryz.func180,Tryz.ntmps180
 go_wp2;go_loopw [5] (fun i wr=>∃ k:Nat,k≤ns.length∧i=.int .i64 k∧Hid (∀ j (h:j<ns.length),j<k→ns[j]<n)∧wr=w) (fun i _=>ns.length-(intOf i).toNat)
 case atStart=>exact⟨0,Nat.zero_le _,rfl,(fun j _ hj=>absurd hj (Nat.not_lt_zero _)),rfl⟩
 case round =>
  obtain⟨k,hk,rfl,HO,hwr⟩:=hrel;obtain rfl:=hwr.symm;by_cases hlt:k<ns.length
  ·have hc:=HC.out k hlt;rw[Nat.zero_add] at hc;obtain⟨y,hy⟩:∃ y,y=ns[k]:=⟨_,rfl⟩;rw[← hy] at hc;have HY:Hid (y=ns[k]):=hy;clear hy;by_cases hyn:y<n
   ·skip
    have HO2:Hid (∀ j (h:j<ns.length),j<k+1→ns[j]<n):=by
     intro j h hj;by_cases hjk:j=k
     ·subst hjk;rw[← HY.out];exact hyn
     ·exact HO.out j h (by omega)
    go_wp2;go_roundw
    case rel=>exact⟨k+1,by omega,by go_num,HO2,trivial⟩
    case measure=>simp[intOf];omega
   ·by_cases hye:y=n
    ·skip
     have HP:Hid (putI ns n=ns):=putI_hit hlt HO.out (by rw[← HY.out];exact hye);have hyb:(y==n)=true:=by simpa using hye
     go_wp2;go_ret;exact⟨_,rfl,by rw[HP.out];exact ho,Below.refl _ _⟩
    ·skip
     have HP:Hid (putI ns n=[]++ns.take k++[n]++ns.drop k):=zmU hk HO.out (fun h=>by rw[← HY.out];omega);have hyb:(y==n)=false:=by simpa using hye
     have hkc:k<cap:=by omega
     go_wp2_with (at_builtin;(refine zaf rfl _ _ rfl w.heap.size _ _ [] (ns.take k) rfl rfl (zcy _) (znb (ho.rd.below (za _ _)) hk) (by rw[List.length_take];simp only[List.length_nil];omega) (by simp) ?_))
     intro v2 w2 ho2 hg2;have b2:Below w.heap.size w w2:=(za w (.cells #[] 2)).grown hg2 (by simp) (fun j hj=>by simp[Value.ownBlock] at hj;omega);have hr2:=ho.rd.below b2;clear hg2;go_wp2_with fail
     refine wp_region_noPanic ?_;refine wp_region_held_drew (S:=fun _=>True) (by kernel_rfl) trivial (fun hH=>?_);have qo:OwnI w2.drew _ v2 ([]++ns.take k):=ho2.drewN 1;have qb:=b2.drew;have qr:RdI w2.drew _ ns:=hr2.drewN 1;clear ho2 b2 hr2;revert qo;revert qb;revert qr;revert hH;generalize w2.drew=W3;intro hH qr qb qo;refine kA 0 39 hH ?_;refine kA 1 40 hH ?_;refine kA 4 43 hH ?_;refine kA 5 44 hH ?_;refine kA 6 45 hH ?_;refine rdy 2 (fun K hK=>?_);go_simp;refine hK.out _ _ trivial (fun h2=>?_);clear hK K;try simp only[Act.put,sA,sZ,sS]
     refine rdy 3 (fun K hK=>?_);refine zG rfl 42 rfl _ _ rfl w.heap.size v2 _ ([]++ns.take k) [n] rfl rfl ?d1 ?d2 ?d3 ?d4 ?_
     case d1=>exact qo.below (za _ _)
     case d2=>exact(zeV _ _).rd
     case d3=>simp;omega
     case d4=>simp;have:=qb.size;omega
     intro v3 w3 ho3 hg3;have bv2:∀ j,v2.ownBlock=some j→w.heap.size≤j:=fun j hj=>(World.ownsRow.lt qo j hj).1
     have b3:Below w.heap.size w w3:=(qb.alloc qb.size _).grown hg3 (by simp;have:=qb.size;omega) (fun j hj=>bv2 j hj);have hr3:=ho.rd.below b3;refine hK.out _ _ trivial (fun h3=>?_);clear hK K;try simp only[Act.put,sA,sZ,sS]
     refine rdy 7 (fun K hK=>?_);refine zG rfl 46 rfl _ _ rfl w.heap.size v3 _ ([]++ns.take k++[n]) (ns.drop k) rfl rfl ?e1 ?e2 ?e3 ?e4 ?_
     case e1=>exact ho3
     case e2=>exact zmv hr3 hk
     case e3=>simp;omega
     case e4=>exact b3.size
     intro v4 w4 ho4 hg4;have b4:Below w.heap.size w w4:=b3.grown hg4 b3.size (fun j hj=>(World.ownsRow.lt ho3 j hj).1);refine hK.out _ _ trivial (fun h4=>?_);clear hK K;try simp only[Act.put,sA,sZ,sS]
     refine kA 8 4 h4 ?_;refine dne ?_;go_wp2;all_goals go_ret
     all_goals refine⟨_,rfl,?_,b4⟩
     all_goals rw[HP.out]
     all_goals exact ho4.mono hB
  ·skip
   have HP:Hid (putI ns n=[]++ns.take k++[n]++ns.drop k):=zmU hk HO.out (fun h=>by omega);have hkl:decide ((k:Int)<(ns.length:Int))=false:=by simp;omega
   go_wp2_with (at_builtin;(refine zaf rfl _ _ rfl w.heap.size _ _ [] (ns.take k) rfl rfl (zcy _) (znb (ho.rd.below (za _ _)) hk) (by rw[List.length_take];simp only[List.length_nil];omega) (by simp) ?_))
   intro v2 w2 ho2 hg2;have b2:Below w.heap.size w w2:=(za w (.cells #[] 2)).grown hg2 (by simp) (fun j hj=>by simp[Value.ownBlock] at hj;omega);have hr2:=ho.rd.below b2;clear hg2;go_wp2_with fail
   refine wp_region_noPanic ?_;refine wp_region_held_drew (S:=fun _=>True) (by kernel_rfl) trivial (fun hH=>?_);have qo:OwnI w2.drew _ v2 ([]++ns.take k):=ho2.drewN 1;have qb:=b2.drew;have qr:RdI w2.drew _ ns:=hr2.drewN 1;clear ho2 b2 hr2;revert qo;revert qb;revert qr;revert hH;generalize w2.drew=W3;intro hH qr qb qo;refine kA 0 39 hH ?_;refine kA 1 40 hH ?_;refine kA 4 43 hH ?_;refine kA 5 44 hH ?_;refine kA 6 45 hH ?_;refine rdy 2 (fun K hK=>?_);go_simp;refine hK.out _ _ trivial (fun h2=>?_);clear hK K;try simp only[Act.put,sA,sZ,sS]
   refine rdy 3 (fun K hK=>?_);refine zG rfl 42 rfl _ _ rfl w.heap.size v2 _ ([]++ns.take k) [n] rfl rfl ?d1 ?d2 ?d3 ?d4 ?_
   case d1=>exact qo.below (za _ _)
   case d2=>exact(zeV _ _).rd
   case d3=>simp;omega
   case d4=>simp;have:=qb.size;omega
   intro v3 w3 ho3 hg3;have bv2:∀ j,v2.ownBlock=some j→w.heap.size≤j:=fun j hj=>(World.ownsRow.lt qo j hj).1
   have b3:Below w.heap.size w w3:=(qb.alloc qb.size _).grown hg3 (by simp;have:=qb.size;omega) (fun j hj=>bv2 j hj);have hr3:=ho.rd.below b3;refine hK.out _ _ trivial (fun h3=>?_);clear hK K;try simp only[Act.put,sA,sZ,sS]
   refine rdy 7 (fun K hK=>?_);refine zG rfl 46 rfl _ _ rfl w.heap.size v3 _ ([]++ns.take k++[n]) (ns.drop k) rfl rfl ?e1 ?e2 ?e3 ?e4 ?_
   case e1=>exact ho3
   case e2=>exact zmv hr3 hk
   case e3=>simp;omega
   case e4=>exact b3.size
   intro v4 w4 ho4 hg4;have b4:Below w.heap.size w w4:=b3.grown hg4 b3.size (fun j hj=>(World.ownsRow.lt ho3 j hj).1);refine hK.out _ _ trivial (fun h4=>?_);clear hK K;try simp only[Act.put,sA,sZ,sS]
   refine kA 8 4 h4 ?_;refine dne ?_;go_wp2;all_goals go_ret
   all_goals refine⟨_,rfl,?_,b4⟩
   all_goals rw[HP.out]
   all_goals exact ho4.mono hB
theorem zpe(key:ByteArray):(key++⟨#[42]⟩:ByteArray).data.toList=key.data.toList++[42]:=by
 rw[ByteArray.data_append];simp
theorem zlK(key:ByteArray)(w:World)(hk:key.size≤1000000000) :
 Calls Tryz.prog 179 #[.string key] w fun e w'=>∃ u,e=.returned u∧OwnI w' w.heap.size u (zaC key)∧Below w.heap.size w w':=by
 have hs2:(key++⟨#[42]⟩:ByteArray).size≤1099511627776:=by rw[ByteArray.size_append];show key.size+1≤_;omega
 have HD1:Hid (∀ W,Calls Tryz.prog 108 #[.string key] W fun e w'=>e=.returned (.int .i64 (dig 1 key.data.toList:Int))∧w'=W):=fun W=>zci key W (by omega)
 have HD2:Hid (∀ W,Calls Tryz.prog 108 #[.string (key++⟨#[42]⟩)] W fun e w'=>e=.returned (.int .i64 (dig 1 (key.data.toList++[42]):Int))∧w'=W):=fun W=>by
  have:=zci (key++⟨#[42]⟩) W hs2;rwa [zpe] at this
 have l1:=zir key.data.toList 1 (by omega);have l2:=zir (key.data.toList++[42]) 1 (by omega);have HM:Hid (zaC key=putI [((dig 1 key.data.toList:Nat):Int) % 256] (((dig 1 (key.data.toList++[42]):Nat):Int) % 256)):=by
  unfold Hid zaC mk1 mk2;rw[Int.natCast_emod,Int.natCast_emod];rfl
 generalize dig 1 key.data.toList=d1 at HD1 l1 HM;generalize dig 1 (key.data.toList++[42])=d2 at HD2 l2 HM;generalize zaC key=M at HM ⊢;go_enter Tryz.func179,Tryz.ntmps179
 go_wp2_with fail
 refine(HD1.out _).mono ?_;rintro e w1 ⟨rfl,hw1⟩;obtain rfl:=hw1.symm;go_wp2_with fail
 refine(HD2.out _).mono ?_;rintro e w2 ⟨rfl,hw2⟩;obtain rfl:=hw2.symm;have ho:=zeV w ((d1:Int) % 256);go_wp2_with fail
 refine(zjy w.heap.size 1 [(d1:Int) % 256] ((d2:Int) % 256) w.heap.size _ ho (by simp) (by simp)).mono ?_;rw[← HM.out];rintro e w3 ⟨u,rfl,ho3,hb3⟩;have b3:=(za w (.cells #[.int .i64 ((d1:Int) % 256)] 2)).trans (hb3.mono (by simp));go_wp2;go_ret;exact⟨u,rfl,ho3,b3⟩
theorem bitsF_at{es:List Ent}{k:Nat}(h:k<es.length)(b:List Int):(es.drop k).foldl (fun b e=>zav b (zaC e.key)) b=(es.drop (k+1)).foldl (fun b e=>zav b (zaC e.key)) (zav b (zaC (nth es k).key)):=by
 rw[List.drop_eq_getElem_cons h,List.foldl_cons,zE h]
theorem zqb{ms:List Int}{k:Nat}(h:k<ms.length)(b:List Int):zav b (ms.drop k)=zav (putI b ms[k]) (ms.drop (k+1)):=by
 unfold zav;rw[List.drop_eq_getElem_cons h,List.foldl_cons]
theorem putI_ne(ns:List Int)(n:Int):putI ns n≠[]:=by
 intro h;have:=(ziR ns n n).2 (.inl rfl);rw[h] at this;cases this
theorem zh8(v:Value)(es:List Ent)(w:World)(hr:RdE w v es)(hf:∀ e∈es,e.key.size≤1000000000)(hn:es.length≤10000) :
 Calls Tryz.prog 133 #[v] w fun e w'=>∃ u,e=.returned u∧OwnI w' w.heap.size u (bitsL es)∧Below w.heap.size w w':=by
 obtain⟨a,cap,hv,hl,hm,_⟩:=id hr;unfold maxLen at hm;subst hv;have HF:Hid (∀ e∈es,e.key.size≤1000000000):=hf;clear hf;have ho0:=zcy w;have hb0:=za w (.cells #[] 2);go_enter Tryz.func133,Tryz.ntmps133
 go_wp2;go_loopg [3,4] es.length (fun gg u i wr=>∃ (k g0 c0:Nat) (bt:List Int),k+gg=es.length∧i=.int .i64 k∧u=.slice (some ⟨g0,0,none⟩) bt.length c0∧bt.length≤2*k∧Hid ((es.drop k).foldl (fun b e=>zav b (zaC e.key)) bt=bitsL es)∧OwnI wr w.heap.size (.slice (some ⟨g0,0,none⟩) bt.length c0) bt∧Below w.heap.size w wr)
 case atStart=>exact⟨0,w.heap.size,0,[],by omega,rfl,rfl,Nat.zero_le _,rfl,ho0,hb0⟩
 case round =>
  obtain⟨k,g0,c0,bt,hkg,rfl,rfl,hbl,HB,ho,hb⟩:=hrel;clear ho0 hb0;by_cases hlt:k<es.length
  ·cases gk with
   | zero=>exfalso;omega
   | succ gg =>
    obtain⟨b,off,rfl,hc⟩:=(hr.below hb).at rfl k hlt;obtain⟨y,hy⟩:∃ y,y=nth es k:=⟨_,rfl⟩;rw[← hy] at hc;have hys:y.key.size≤1000000000:=by rw[hy,zE hlt];exact HF.out _ (List.getElem_mem hlt)
    have HB2:Hid ((es.drop (k+1)).foldl (fun b e=>zav b (zaC e.key)) (zav bt (zaC y.key))=bitsL es):=by rw[hy,← bitsF_at hlt];exact HB
    clear hy HB;obtain⟨c0',c1,c2,c3⟩:=id hc;go_wp2_with fail
    refine(zlK y.key _ hys).mono ?_;rintro e w2 ⟨um,rfl,hom,hb2⟩;have b2:=hb.trans (hb2.mono hb.size);have ho2:=ho.below hb2;have hml:=zik y.key;generalize zaC y.key=ms at hom hml HB2;obtain⟨am,cm,hvm,hm1,hm2,_⟩:=id hom.rd;subst hvm;unfold maxLen at hm2;clear ho hb hb2 hc c0' c1 c2 c3;go_wp2;go_loopg [3,6] 2 (fun g2 u i wr=>∃ (j g1 c1:Nat) (b1:List Int),j+g2=2∧i=.int .i64 j∧j≤ms.length∧u=.slice (some ⟨g1,0,none⟩) b1.length c1∧b1.length≤bt.length+j∧Hid (zav b1 (ms.drop j)=zav bt ms)∧OwnI wr w.heap.size (.slice (some ⟨g1,0,none⟩) b1.length c1) b1∧RdI wr (.slice am ms.length cm) ms∧Below w.heap.size w wr)
    case atStart=>exact⟨0,g0,c0,bt,by omega,rfl,Nat.zero_le _,rfl,by omega,rfl,ho2,hom.rd,b2⟩
    case round =>
     obtain⟨j,g1,c1,b1,hj2,rfl,hjm,rfl,hb1l,HT,hoj,hrj,hbj⟩:=hrel;clear ho2 hom b2;by_cases hjl:j<ms.length
     ·cases gk with
      | zero=>exfalso;omega
      | succ g2 =>
       obtain⟨bm,om,rfl,hcm⟩:=hrj.at j hjl;obtain⟨x,hx⟩:∃ x,x=ms[j]:=⟨_,rfl⟩;rw[← hx] at hcm;have HT2:Hid (zav (putI b1 x) (ms.drop (j+1))=zav bt ms):=by rw[hx,← zqb hjl];exact HT
       clear hx HT;go_wp2_with fail
       refine(zjy g1 c1 b1 x w.heap.size _ hoj (by omega) hbj.size).mono ?_;rintro e w4 ⟨u4,rfl,ho4,hb4⟩;have b4:=hbj.trans (hb4.mono hbj.size);have hr4:=hrj.below hb4;have hpl:=zjb b1 x;obtain⟨g4,c4,hv4⟩:=zjC ho4 (putI_ne b1 x);subst hv4;generalize putI b1 x=b5 at ho4 hpl HT2;clear hoj hrj hbj hb4 hcm;go_wp2;go_roundg g2
       case rel=>exact⟨j+1,g4,c4,b5,by omega,by go_num,by omega,rfl,by omega,HT2,ho4,hr4,b4⟩
       case measure=>omega
     ·have hje:j=ms.length:=by omega
      have HE:Hid (b1=zav bt ms):=by have:=HT.out;rw[hje,List.drop_eq_nil_of_le (Nat.le_refl _)] at this;exact this
      have HB3:Hid ((es.drop (k+1)).foldl (fun b e=>zav b (zaC e.key)) b1=bitsL es):=by rw[HE.out];exact HB2
      have hjl2:¬ (j:Int)<(ms.length:Int):=by omega
      clear hje HE HT HB2;go_wp2;go_roundg gg
      case rel=>exact⟨k+1,g1,c1,b1,by omega,by go_num,rfl,by omega,HB3,hoj,hbj⟩
      case measure=>omega
  ·have HE:Hid (bt=bitsL es):=by have:=HB.out;rw[List.drop_eq_nil_of_le (by omega)] at this;exact this
   have hke:¬ (k:Int)<(es.length:Int):=by omega
   clear HB;go_wp2;go_ret;exact⟨_,rfl,by rw[← HE.out];exact ho,hb⟩
open Go.RowKit
structure Cur (w0 w:World) (g:Nat) (v:Value) (bs:List UInt8) (p:Nat):Prop where
 rd:Rd w0 v bs
 ge:w0.heap.size≤g
 blk:w.heap[g]? = some (.cells #[v,.int .i64 (p:Int)] 182 (0,0))
 bel:Below w0.heap.size w0 w
 le:p≤bs.length
theorem Cur.cells{w0 w:World}{g:Nat}{v:Value}{bs:List UInt8}{p:Nat}(h:Cur w0 w g v bs p):w.cell? ⟨g,0,none⟩=some v∧w.cell? ⟨g,1,none⟩=some (.int .i64 (p:Int))∧w.frozen? ⟨g,1,none⟩=false:=by
 have:=h.blk;refine⟨?_,?_,?_⟩<;>simp[World.cell?,World.frozen?,this]
theorem zo7{w:World}{v:Value}{bs:List UInt8}(h:Rd w v bs):Cur w (w.alloc (.cells #[v,.int .i64 0] 182)) w.heap.size v bs 0 :=
 ⟨h,Nat.le_refl _,heap_alloc_new w _,(Below.refl _ _).alloc (Nat.le_refl _) _,Nat.zero_le _⟩
theorem Cur.drewN{w0 w:World}{g:Nat}{v:Value}{bs:List UInt8}{p:Nat}(h:Cur w0 w g v bs p)(q:Nat):Cur w0 (w.drewN q) g v bs p:=⟨h.rd,h.ge,h.blk,below_drewN h.bel q,h.le⟩
theorem Cur.moved{w0 w:World}{g:Nat}{v:Value}{bs:List UInt8}{p:Nat}(h:Cur w0 w g v bs p)(p':Nat)(hp:p'≤bs.length):Cur w0 (w.setCell ⟨g,1,none⟩ (.int .i64 (p':Int))) g v bs p' :=
 ⟨h.rd,h.ge,by rw[heap_setCell_same w g 1 _ _ _ h.blk];rfl,h.bel.setCell h.ge _,hp⟩
theorem Cur.grown{w:World}{g:Nat}(u:Value):w.grownBy (w.setCell ⟨g,1,none⟩ u) (some g) :=
 ⟨rfl,rfl,rfl,by simp,fun k _ hk=>heap_setCell_other w ⟨g,1,none⟩ k u (fun e=>hk (by simp[e]))⟩
theorem za6{a w:World}{row:Option Nat}(h:a.grownBy w row)(q:Nat):a.grownBy (w.drewN q) row:=⟨h.os,h.tape,h.output,h.size,h.block⟩
theorem zkt(a:World)(row:Option Nat):a.grownBy a row:=⟨rfl,rfl,rfl,Nat.le_refl _,fun _ _ _=>rfl⟩
theorem moved_at{w0 w:World}{g:Nat}{v:Value}{bs:List UInt8}{p:Nat}(h:Cur w0 w g v bs p)(q j:Nat){i:Nat}(hp:p+i<bs.length)(hj:j=i+1):Cur w0 ((w.drewN q).setCell ⟨g,1,none⟩ (.int .i64 ((p:Int)+((i:Int)+1)))) g v bs (p+j):=by
 have:=(h.drewN q).moved (p+j) (by omega);rw[show ((p+j:Nat):Int)=(p:Int)+((i:Int)+1) by omega] at this;exact this
theorem moved_by(w:World)(q g:Nat){u:Value}:w.grownBy ((w.drewN q).setCell ⟨g,1,none⟩ u) (some g):=by
 have h:(w.drewN q).grownBy ((w.drewN q).setCell ⟨g,1,none⟩ u) (some g):=Cur.grown u;exact⟨h.os,h.tape,h.output,h.size,h.block⟩
def zgN(w0 w:World)(g:Nat)(v:Value)(bs:List UInt8)(p:Nat)(R:Nat×Nat)(e:Ending)(w':World):Prop :=
 ∃ p',e=.returned (.tuple #[.int .i64 (R.1:Int),.bool (decide (R.2≠0))])∧Cur w0 w' g v bs p'∧(R.2≠0→p'=p+R.2)∧w.grownBy w' (some g)
theorem zd4{w0 w:World}{g:Nat}{v:Value}{bs:List UInt8}{p:Nat}{R:Nat×Nat}(h:Cur w0 w g v bs p)(hR:R=(0,0))(q:Nat):zgN w0 w g v bs p R (.returned (.tuple #[.int .i64 0,.bool false])) (w.drewN q) :=
 ⟨p,by rw[hR];rfl,h.drewN q,fun h=>by rw[hR] at h;exact absurd rfl h,za6 (zkt _ _) _⟩
theorem zgW{w0 w:World}{g:Nat}{v:Value}{bs:List UInt8}{p m d i:Nat}{R:Nat×Nat}(h:Cur w0 w g v bs p)(hR:R=(m+d,i+1))(q:Nat)(hp:p+i<bs.length) :
 zgN w0 w g v bs p R (.returned (.tuple #[.int .i64 ((m:Int)+(d:Int)),.bool true])) ((w.drewN q).setCell ⟨g,1,none⟩ (.int .i64 ((p:Int)+((i:Int)+1)))) :=
 ⟨p+(i+1),by rw[hR];simp,moved_at h q (i+1) hp rfl,fun _=>by rw[hR],moved_by _ _ _⟩
theorem zd7(w0 w:World)(g:Nat)(v:Value)(bs:List UInt8)(p:Nat)(h:Cur w0 w g v bs p) :
 Calls Tryz.prog 163 #[.pointer (some ⟨g,0,none⟩)] w fun e w'=>e=.returned (.int .i64 ((bs.length:Int)-(p:Int)))∧∃ q,w'=w.drewN q:=by
 obtain⟨a,cap,rfl,hl,hm,hA⟩:=h.rd;obtain⟨c0,c1,_⟩:=h.cells;have hle:=h.le;unfold maxLen at hm;clear hA h;go_enter Tryz.func163,Tryz.ntmps163
 go_wp2;go_quiet (fail)
 go_wp2;go_ret;exact⟨rfl,_,rfl⟩
theorem zcz(w0 w:World)(g:Nat)(v:Value)(bs:List UInt8)(p:Nat)(h:Cur w0 w g v bs p) :
 Calls Tryz.prog 161 #[.pointer (some ⟨g,0,none⟩)] w fun e w'=>zgN w0 w g v bs p (rdNum (bs.drop p)) e w':=by
 obtain⟨R,hR⟩:∃ R,R=rdNum (bs.drop p):=⟨_,rfl⟩;rw[← hR];have hle:=h.le;have HC:Hid (Cur w0 w g v bs p):=h;obtain⟨a,cap,hv,hl,hm,hA⟩:=h.rd.below h.bel;unfold maxLen at hm;go_enter Tryz.func161,Tryz.ntmps161
 go_wp2_with fail
 refine(zd7 w0 w g v bs p h).mono ?_;rintro e w1 ⟨rfl,q1,rfl⟩;clear h;subst hv;have HR0:Hid (R=rdF 6 0 0 1 (bs.drop p)):=hR;clear hR;go_wp2;all_goals
  go_loopw [4,5,11] (fun n u i wr=>∃ k m q qd:Nat,k≤6∧p+k≤bs.length∧i=.int .i64 k∧n=.int .i64 m∧u=.int .i64 q∧m<q∧q≤4398046511104∧(k<6→q≤34359738368)∧Hid (q=128 ^ k∧R=rdF (6-k) k m q (bs.drop (p+k)))∧wr=w.drewN qd) (fun _ _ i _=>6-(intOf i).toNat)
  case atStart=>exact⟨0,0,1,q1,by omega,by omega,rfl,rfl,rfl,by omega,by omega,by omega,⟨rfl,HR0.out⟩,rfl⟩
  case round =>
   obtain⟨k,m,q,qd,hk6,hk,rfl,rfl,rfl,hmq,hq,hq6,HR,rfl⟩:=hrel;by_cases hlt:p+k<bs.length
   ·by_cases h6:k<6
    ·obtain⟨b0,off,ha,hc⟩:∃ b0 off,a=some ⟨b0,off,none⟩∧w.cell? ⟨b0,off+(p+k),none⟩=some (.int .u8 (bs[p+k].toNat:Int)):=by
      rcases hA with h | ⟨b,off,ha,hc⟩
      ·subst h;simp at hlt
      ·exact⟨b,off,ha,hc (p+k) hlt⟩
     obtain⟨c0,c1,f1⟩:=HC.out.cells;rw[ha] at c0;obtain⟨b,hb⟩:∃ b,b=bs[p+k].toNat:=⟨_,rfl⟩;rw[← hb] at hc;have hb8:b<256:=by rw[hb];exact UInt8.toNat_lt _
     have Hb:Hid (b=bs[p+k].toNat):=hb;have hml:=mul_le b q;have hq7:=hq6 h6;obtain⟨d,hd⟩:∃ d,d=b % 128*q:=⟨_,rfl⟩;have Hd:Hid (d=b % 128*q):=hd;have hx:(b:Int) % 128*(q:Int)=(d:Int):=by rw[hd,Int.natCast_mul,Int.natCast_emod];rfl
     rw[← hd] at hml;clear hA ha hq6 hd hb;go_wp2;go_quiet (fail)
     by_cases hb7:b<128
     ·by_cases h40:1099511627776<m+d
      ·have HF:Hid (R=(0,0)):=by
        have h:=HR.out.2;rw[show 6-k=(5-k)+1 by omega] at h;exact h.trans (zme _ _ _ _ _ b bs hlt Hb.out hb7 (by rw[← Hd.out];exact .inl h40))
       go_wp2;go_ret2
       exact zd4 HC.out HF.out _
      ·by_cases hb0:b=0
       ·have hbz:((b:Int)==0)=true:=by simp;omega
        by_cases hk0:0<k
        ·have HF:Hid (R=(0,0)):=by
          have h:=HR.out.2;rw[show 6-k=(5-k)+1 by omega] at h;exact h.trans (zme _ _ _ _ _ b bs hlt Hb.out hb7 (.inr ⟨hk0,hb0⟩))
         clear hb0;go_wp2;go_ret2
         exact zd4 HC.out HF.out _
        ·have HF:Hid (R=(m+d,k+1)):=by
          have h:=HR.out.2;rw[show 6-k=(5-k)+1 by omega] at h;exact h.trans ((ziB _ _ _ _ _ b bs hlt Hb.out hb7 (by rw[← Hd.out];omega)).trans (by rw[← Hd.out]))
         clear hb0;go_wp2;go_ret2
         exact zgW HC.out HF.out _ hlt
       ·have hbz:((b:Int)==0)=false:=by simp;omega
        have HF:Hid (R=(m+d,k+1)):=by
         have h:=HR.out.2;rw[show 6-k=(5-k)+1 by omega] at h;exact h.trans ((ziB _ _ _ _ _ b bs hlt Hb.out hb7 (by rw[← Hd.out];omega)).trans (by rw[← Hd.out]))
        clear hb0;go_wp2;go_ret2
        exact zgW HC.out HF.out _ hlt
     ·have HN:Hid (q*128=128 ^ (k+1)∧R=rdF (6-(k+1)) (k+1) (m+d) (q*128) (bs.drop (p+(k+1)))):=by
       refine⟨by rw[HR.out.1,Nat.pow_succ],?_⟩;have h:=HR.out.2;rw[show 6-k=(6-(k+1))+1 by omega] at h;exact h.trans ((zne _ _ _ _ _ b bs hlt Hb.out (by omega)).trans (by rw[← Hd.out,Nat.add_assoc]))
      have HQ:Hid (k+1<6→q≤268435456):=fun hk5=>by
       have h1:=HR.out.1;have h2:(128:Nat) ^ k≤128 ^ 4:=Nat.pow_le_pow_right (by omega) (by omega);omega
      go_wp2;go_roundw
      case rel=>exact⟨k+1,m+d,q*128,_,by omega,by omega,by go_num,by go_num,by go_num,by omega,by omega,fun h=>by have:=HQ.out h;omega,HN,rfl⟩
      case measure=>simp[intOf];omega
    ·have HF:Hid (R=(0,0)):=by
      have h:=HR.out.2;rw[show 6-k=0 by omega] at h;exact h
     go_wp2;all_goals (go_ret2;exact zd4 HC.out HF.out _)
   ·have HF:Hid (R=(0,0)):=HR.out.2.trans (zpV _ _ _ _ _ _ (by omega));go_wp2;all_goals (go_ret2;exact zd4 HC.out HF.out _)
open Go.RowKit
def zeT(w0 w:World)(g:Nat)(v:Value)(bs:List UInt8)(p:Nat)(T:List UInt8×Nat)(e:Ending)(w':World):Prop :=
 ∃ p',e=.returned (.tuple #[.string ⟨T.1.toArray⟩,.bool (decide (T.2≠0))])∧Cur w0 w' g v bs p'∧(T.2≠0→p'=p+T.2)∧w.grownBy w' (some g)
theorem zlR{a b c:World}{row:Option Nat}(h:a.grownBy b row)(k:b.grownBy c row):a.grownBy c row :=
 ⟨k.os.trans h.os,k.tape.trans h.tape,k.output.trans h.output,Nat.le_trans h.size k.size,fun i hi hr=>(k.block i (Nat.lt_of_lt_of_le hi h.size) hr).trans (h.block i hi hr)⟩
theorem zel{w0 w w1:World}{g:Nat}{v:Value}{bs:List UInt8}{p p1:Nat}{T:List UInt8×Nat}(h:Cur w0 w1 g v bs p1)(hg:w.grownBy w1 (some g))(hT:T=([],0))(q:Nat):zeT w0 w g v bs p T (.returned (.tuple #[.string ⟨#[]⟩,.bool false])) (w1.drewN q) :=
 ⟨p1,by rw[hT];rfl,h.drewN q,fun h=>by rw[hT] at h;exact absurd rfl h,za6 hg _⟩
theorem zf1{w0 w w1:World}{g:Nat}{v:Value}{bs l:List UInt8}{p k n:Nat}{T:List UInt8×Nat}(h:Cur w0 w1 g v bs (p+k))(hg:w.grownBy w1 (some g))(hk:k≠0)(hT:T=(l,k+n))(hn:p+k+n≤bs.length)(q r:Nat) :
 zeT w0 w g v bs p T (.returned (.tuple #[.string ⟨l.toArray⟩,.bool true])) ((((w1.drewN q).setCell ⟨g,1,none⟩ (.int .i64 ((p:Int)+(k:Int)+(n:Int))))).drewN r):=by
 have hc:=((h.drewN q).moved (p+k+n) hn).drewN r;rw[show ((p+k+n:Nat):Int)=(p:Int)+(k:Int)+(n:Int) by omega] at hc;refine⟨p+k+n,?_,hc,fun _=>by rw[hT];omega,za6 (zlR (za6 hg q) (Cur.grown _)) r⟩;rw[hT];have:decide (k+n≠0)=true:=by simp;omega
 rw[this]
theorem zpn(w:World)(b off k n c:Nat)(bs l:List UInt8)(h:k+n≤bs.length)(hl:(bs.drop k).take n=l)(hc:∀ i (h:i<bs.length),w.cell? ⟨b,off+i,none⟩=some (.int .u8 (bs[i].toNat:Int))) :
 ∀ q,(convert 105 9 (.slice (some ⟨b,off+k,none⟩) n c)).run Tryz.prog (w.drewN q)=.ok (.string ⟨l.toArray⟩) (w.drewN q):=fun q=>by rw[← hl];exact zmB (w.drewN q) b off k n c bs h hc
theorem ziH(w0 w:World)(g:Nat)(v:Value)(bs:List UInt8)(p:Nat)(h:Cur w0 w g v bs p) :
 Calls Tryz.prog 162 #[.pointer (some ⟨g,0,none⟩)] w fun e w'=>zeT w0 w g v bs p (zr (bs.drop p)) e w':=by
 have hlen:=zag (bs.drop p);obtain⟨a,cap,hv,hl,hm,hA⟩:=h.rd;unfold maxLen at hm;subst hv;have HA:Hid (bs=[]∨∃ b off,a=some ⟨b,off,none⟩∧∀ i (h:i<bs.length),w0.cell? ⟨b,off+i,none⟩=some (.int .u8 (bs[i].toNat:Int))):=hA;clear hA;obtain⟨T,hT⟩:∃ T,T=zr (bs.drop p):=⟨_,rfl⟩;rw[← hT];have HN:=zcz w0 w g _ bs p h;unfold zr at hT;obtain⟨R,hR⟩:∃ R,R=rdNum (bs.drop p):=⟨_,rfl⟩;rw[← hR] at hlen HN hT;clear hR;obtain⟨n,k⟩:=R;have HT:Hid (T=if k=0∨3000<n∨(bs.drop p).length<k+n then ([],0) else (((bs.drop p).drop k).take n,k+n)):=hT;have HC:Hid (Calls _ _ _ _ _):=HN;rw[List.length_drop] at hlen HT;have hple:=h.le;clear HN hT;simp only at hlen;by_cases h0:k=0
 ·have HF:Hid (T=([],0)):=by rw[if_pos (.inl h0)] at HT;exact HT
  clear HT;go_enter Tryz.func162,Tryz.ntmps162
  go_wp2_with fail
  refine HC.out.mono ?_;rintro e w1 ⟨p1,rfl,hc,hp,hg⟩;have hb:decide ((n,k).2≠0)=false:=by simp[h0]
  rw[hb];clear hb hp h0;go_wp2;go_ret2
  exact zel hc hg HF.out 0
 have hb:decide ((n,k).2≠0)=true:=by simp[h0]
 by_cases h1:3000<n
 ·have HF:Hid (T=([],0)):=by rw[if_pos (.inr (.inl h1))] at HT;exact HT
  clear HT;go_enter Tryz.func162,Tryz.ntmps162
  go_wp2_with fail
  refine HC.out.mono ?_;rintro e w1 ⟨p1,rfl,hc,hp,hg⟩;rw[hb];clear hb hp;go_wp2;go_ret2
  exact zel hc hg HF.out 0
 by_cases h2:bs.length-p<k+n
 ·have HF:Hid (T=([],0)):=by rw[if_pos (.inr (.inr h2))] at HT;exact HT
  clear HT;go_enter Tryz.func162,Tryz.ntmps162
  go_wp2_with fail
  refine HC.out.mono ?_;rintro e w1 ⟨p1,rfl,hc,hp,hg⟩;rw[hb];have hp1:p1=p+k:=hp h0;subst hp1;clear hb hp;go_wp2_with fail
  refine(zd7 w0 _ g _ bs _ hc).mono ?_;rintro e w2 ⟨rfl,q2,rfl⟩;go_wp2;go_ret2
  exact zel hc hg HF.out _
 have HF:Hid (T=(((bs.drop p).drop k).take n,k+n)):=by rw[if_neg (by omega)] at HT;exact HT
 go_enter Tryz.func162,Tryz.ntmps162
 go_wp2_with fail
 refine HC.out.mono ?_;rintro e w1 ⟨p1,rfl,hc,hp,hg⟩;rw[hb];have hp1:p1=p+k:=hp h0;subst hp1;clear hb hp HT;go_wp2_with fail
 refine(zd7 w0 _ g _ bs _ hc).mono ?_;rintro e w2 ⟨rfl,q2,rfl⟩;obtain⟨c0,c1,f1⟩:=hc.cells;go_wp2;obtain⟨b,off,ha,hA⟩:∃ b off,a=some ⟨b,off,none⟩∧∀ i (h:i<bs.length),w0.cell? ⟨b,off+i,none⟩=some (.int .u8 (bs[i].toNat:Int)):=by
  rcases HA.out with h | h
  ·subst h;simp at hlen;omega
  ·exact h
 have hcm:=(hc.drewN q2).moved (p+k+n) (by omega);rw[show ((p+k+n:Nat):Int)=(p:Int)+(k:Int)+(n:Int) by omega] at hcm;generalize hW:(w1.drewN q2).setCell ⟨g,1,none⟩ (.int .i64 ((p:Int)+(k:Int)+(n:Int)))=W at hcm ⊢;have HW:Hid ((w1.drewN q2).setCell ⟨g,1,none⟩ (.int .i64 ((p:Int)+(k:Int)+(n:Int)))=W):=hW;have hAW:∀ i (h:i<bs.length),W.cell? ⟨b,off+i,none⟩=some (.int .u8 (bs[i].toNat:Int)):=fun i hi=>by rw[hcm.bel.cell (World.block_lt_of_cell? w0 _ (hA i hi))];exact hA i hi
 obtain⟨d0,d1,e1⟩:=hcm.cells;rw[show ((p+k+n:Nat):Int)=(p:Int)+(k:Int)+(n:Int) by omega] at d1;rw[ha] at d0;generalize hl':((bs.drop p).drop k).take n=l at HF;rw[List.drop_drop] at hl';have hcv:=zpn W b off (p+k) n (cap-(p+k)) bs l (by omega) hl' hAW;have hlc:l.length=n:=by rw[← hl'];exact ziT bs (p+k) n (by omega)
 clear hW hA hcm hAW c0 c1 f1 hl' ha;by_cases hcap:cap=p+k
 ·subst hcap;have hn0:n=0:=by omega
  have hl0:l=[]:=by have h:=hlc;exact List.length_eq_zero_iff.1 (by omega)
  have hcn:∀ q,(convert 105 9 (.slice (some ⟨b,off,none⟩) n 0)).run Tryz.prog (W.drewN q)=.ok (.string ⟨l.toArray⟩) (W.drewN q):=fun q=>zkq (W.drewN q) b off n 0 hn0 l hl0
  clear hcv hlc hn0 hl0;go_quiet (fail)
  go_wp2;go_ret2
  rw[← HW.out];exact zf1 hc hg h0 HF.out (by omega) q2 _
 ·clear hlc;go_quiet (fail)
  go_wp2;go_ret2
  rw[← HW.out];exact zf1 hc hg h0 HF.out (by omega) q2 _
open Go.RowKit
theorem drew2(w:World)(n q:Nat):(w.drewN n).drewN q=w.drewN (n+q):=by simp
theorem zpp{a b:UInt8}(h:a=b):((a.toNat:Int)==(b.toNat:Int))=true:=by subst h;simp
theorem zn9{a b:UInt8}(h:a≠b):((a.toNat:Int)==(b.toNat:Int))=false:=by
 simp only[beq_eq_false_iff_ne,ne_eq];intro e;exact h (UInt8.toNat_inj.1 (by omega))
theorem zof{a b:UInt8}(h:a=b):((a.toNat:Int) != (b.toNat:Int))=false:=by subst h;simp
theorem zk7{a b:UInt8}(h:a≠b):((a.toNat:Int) != (b.toNat:Int))=true:=by
 simp only[bne_iff_ne,ne_eq];intro e;exact h (UInt8.toNat_inj.1 (by omega))
theorem zjl{a b:ByteArray}{c k:Nat}(h:c=k+comB (a.data.toList.drop k) (b.data.toList.drop k))(hk:a.size≤k∨b.size≤k):c=k:=by
 rw[comB_end (by rw[ze,ze];exact hk)] at h;exact h
theorem com_ne{a b:ByteArray}{c k:Nat}(h:c=k+comB (a.data.toList.drop k) (b.data.toList.drop k))(h1:k<a.size)(h2:k<b.size)(hn:a[k]≠b[k]):c=k:=by
 rw[comB_ne (by rw[ze];exact h1) (by rw[ze];exact h2) hn] at h;exact h
theorem com_eq{a b:ByteArray}{c k:Nat}(h:c=k+comB (a.data.toList.drop k) (b.data.toList.drop k))(h1:k<a.size)(h2:k<b.size)(hn:a[k]=b[k]):c=(k+1)+comB (a.data.toList.drop (k+1)) (b.data.toList.drop (k+1)):=by
 rw[comB_eq (by rw[ze];exact h1) (by rw[ze];exact h2) hn] at h;omega
theorem zeh(a b:ByteArray)(w:World)(ha:a.size≤4503599627370496)(_:b.size≤4503599627370496) :
 Calls Tryz.prog 182 #[.string a,.string b] w fun e w'=>e=.returned (.int .i64 (com a b:Int))∧∃ n,w'=w.drewN n:=by
 obtain⟨c,hc⟩:∃ c,c=com a b:=⟨_,rfl⟩;rw[← hc];have HC:Hid (c=comB a.data.toList b.data.toList):=hc;clear hc;go_enter Tryz.func182,Tryz.ntmps182
 go_wp2;go_loopw [5] (fun i wr=>∃ k:Nat,k≤a.size∧k≤b.size∧i=.int .i64 k∧Hid (c=k+comB (a.data.toList.drop k) (b.data.toList.drop k))∧∃ n,wr=w.drewN n) (fun i _=>a.size-(intOf i).toNat)
 case atStart=>exact⟨0,Nat.zero_le _,Nat.zero_le _,rfl,by unfold Hid;rw[HC.out];simp,0,rfl⟩
 case round =>
  obtain⟨k,hka,hkb,rfl,HK,n,rfl⟩:=hrel;clear HC;by_cases h1:k<a.size
  ·have d1:decide ((k:Int)<(a.size:Int))=true:=by simp;omega
   by_cases h2:k<b.size
   ·have d2:decide ((k:Int)<(b.size:Int))=true:=by simp;omega
    by_cases h3:a[k]=b[k]
    ·have d3:=zpp h3;have HN:Hid (c=(k+1)+comB (a.data.toList.drop (k+1)) (b.data.toList.drop (k+1))):=com_eq HK.out h1 h2 h3;clear h3 HK;go_wp2;go_quiet (fail)
     go_wp2;go_roundw
     case rel=>exact⟨k+1,by omega,by omega,by go_num,HN,n+_,rfl⟩
     case measure=>simp[intOf];omega
    ·have d3:=zn9 h3;have HN:Hid (c=k):=com_ne HK.out h1 h2 h3;clear h3 HK;go_wp2;go_quiet (fail)
     go_wp2;go_ret;exact⟨by have h:=HN.out;subst h;rfl,n+_,drew2 _ _ _⟩
   ·have d2:decide ((k:Int)<(b.size:Int))=false:=by simp;omega
    have HN:Hid (c=k):=zjl HK.out (.inr (by omega));clear HK;go_wp2;go_quiet (fail)
    go_wp2;go_ret;exact⟨by have h:=HN.out;subst h;rfl,n+_,drew2 _ _ _⟩
  ·have d1:decide ((k:Int)<(a.size:Int))=false:=by simp;omega
   have HN:Hid (c=k):=zjl HK.out (.inl (by omega));clear HK;go_wp2;go_quiet (fail)
   go_wp2;go_ret;exact⟨by have h:=HN.out;subst h;rfl,n+_,drew2 _ _ _⟩
theorem zee(a b:ByteArray)(w:World)(ha:a.size≤4503599627370496)(hb:b.size≤4503599627370496) :
 Calls Tryz.prog 251 #[.string a,.string b] w fun e w'=>e=.returned (.int .i64 (com a b:Int))∧∃ n,w'=w.drewN n:=by
 obtain⟨c,hc⟩:∃ c,c=com a b:=⟨_,rfl⟩;rw[← hc];have HC:Hid (c=comB a.data.toList b.data.toList):=hc;clear hc;go_enter Tryz.func251,Tryz.ntmps251
 go_wp2;all_goals
  go_loopw [13] (fun i wr=>∃ k:Nat,k≤a.size∧k≤b.size∧i=.int .i64 k∧Hid (c=k+comB (a.data.toList.drop k) (b.data.toList.drop k))∧∃ n,wr=w.drewN n) (fun i _=>a.size-(intOf i).toNat)
  case atStart=>exact⟨0,Nat.zero_le _,Nat.zero_le _,rfl,by unfold Hid;rw[HC.out];simp,0,rfl⟩
  case round =>
   obtain⟨k,hka,hkb,rfl,HK,n,rfl⟩:=hrel;clear HC;by_cases h1:k<a.size
   ·by_cases h2:k<b.size
    ·by_cases h3:a[k]=b[k]
     ·have d3:=zof h3;have HN:Hid (c=(k+1)+comB (a.data.toList.drop (k+1)) (b.data.toList.drop (k+1))):=com_eq HK.out h1 h2 h3;clear h3 HK;go_wp2;go_quiet (fail)
      go_wp2;go_roundw
      case rel=>exact⟨k+1,by omega,by omega,by go_num,HN,n+_,rfl⟩
      case measure=>simp[intOf];omega
     ·have d3:=zk7 h3;have HN:Hid (c=k):=com_ne HK.out h1 h2 h3;clear h3 HK;go_wp2;go_quiet (fail)
      go_wp2;go_ret;exact⟨by have h:=HN.out;subst h;rfl,n+_,drew2 _ _ _⟩
    ·first
      | (exfalso;omega)
      | (have HN:Hid (c=k):=zjl HK.out (.inr (by omega))
         have hke:k=b.size:=by omega
         subst hke;clear HK;go_wp2;go_ret;exact⟨by have h:=HN.out;subst h;rfl,n,rfl⟩)
   ·first
     | (exfalso;omega)
     | (have HN:Hid (c=k):=zjl HK.out (.inl (by omega))
        have hke:k=a.size:=by omega
        subst hke;clear HK;go_wp2;go_ret;exact⟨by have h:=HN.out;subst h;rfl,n,rfl⟩)
end Go.Proofs.YtannfbpohhnnkaaGreatDoor
