import Derived.Test.YtannfbpohhnnkaaGreatDoorG11
import Derived.Deep.RegionHeld3
namespace Go.Proofs.YtannfbpohhnnkaaGreatDoor
set_option maxHeartbeats 16000000
set_option maxRecDepth 100000
open Go.RowKit
def BoxT(w:World)(b:Nat)(f l:ByteArray)(vb vk:Value):Prop:=w.heap[b]? = some (.cells #[.string f,.string l,vb,vk] 118 (0,0))
theorem BoxT.lt{w:World}{b:Nat}{f l:ByteArray}{vb vk:Value}(h:BoxT w b f l vb vk):b<w.heap.size:=(Array.getElem?_eq_some_iff.1 h).1
theorem BoxT.block{w w':World}{b:Nat}{f l:ByteArray}{vb vk:Value}(h:BoxT w b f l vb vk)(hb:w'.heap[b]? = w.heap[b]?):BoxT w' b f l vb vk:=hb.trans h
theorem BoxT.below{w w':World}{b:Nat}{f l:ByteArray}{vb vk:Value}(h:BoxT w b f l vb vk)(hb:Below w.heap.size w w'):BoxT w' b f l vb vk:=h.block (hb.block b h.lt)
theorem BoxT.facts{w:World}{b:Nat}{f l:ByteArray}{vb vk:Value}(h:BoxT w b f l vb vk):w.cell? ⟨b,0,none⟩=some (.string f)∧w.cell? ⟨b,1,none⟩=some (.string l)∧w.cell? ⟨b,2,none⟩=some vb∧w.cell? ⟨b,3,none⟩=some vk ∧
 w.frozen? ⟨b,0,none⟩=false∧w.frozen? ⟨b,1,none⟩=false∧w.frozen? ⟨b,2,none⟩=false∧w.frozen? ⟨b,3,none⟩=false:=by
 unfold BoxT at h;refine⟨?_,?_,?_,?_,?_,?_,?_,?_⟩<;>simp[World.cell?,World.frozen?,h]
theorem zbQ(w:World)(f l:ByteArray)(vb vk:Value):BoxT (w.alloc (.cells #[.string f,.string l,vb,vk] 118)) w.heap.size f l vb vk:=heap_alloc_new w _
theorem zq5{w:World}{b:Nat}{f l f' l':ByteArray}{vb vk vb' vk':Value}(h:BoxT w b f l vb vk):BoxT ((((w.setCell ⟨b,0,none⟩ (.string f')).setCell ⟨b,1,none⟩ (.string l')).setCell ⟨b,2,none⟩ vb').setCell ⟨b,3,none⟩ vk') b f' l' vb' vk':=by
 unfold BoxT at h ⊢;have h1:=heap_setCell_same w b 0 _ _ (.string f') h;have h2:=heap_setCell_same _ b 1 _ _ (.string l') h1;have h3:=heap_setCell_same _ b 2 _ _ vb' h2;have h4:=heap_setCell_same _ b 3 _ _ vk' h3;exact h4
theorem zfe{w:World}{b:Nat}{f l:ByteArray}{vb vk vk':Value}(h:BoxT w b f l vb vk):BoxT (w.setCell ⟨b,3,none⟩ vk') b f l vb vk':=by
 unfold BoxT at h ⊢;exact heap_setCell_same w b 3 _ _ vk' h
theorem zJ{w:World}{B b t s n:Nat}{f l:ByteArray}{vb vk v:Value}{xs:List Value}(h:BoxT w b f l vb vk)(ho:w.ownsRow B t s v n xs)(ht:t≠118):∀ k,v.ownBlock=some k→b≠k:=by
 intro k hk e;subst e;rcases ho.2 with ⟨rfl,_⟩ | ⟨g,cap,cur,rfl,_,hg,_⟩
 ·simp[Value.ownBlock] at hk
 ·obtain rfl:g=b:=by simpa [Value.ownBlock] using hk
  unfold BoxT at h;rw[h] at hg;injection hg with hg
  injection hg with _ h2
  exact ht h2.symm
theorem zdY{w:World}{b o c:Nat}{e:Ent}(h:EntAt w b o e)(hne:b≠c)(u0 u1 u2 u3:Value)(i j k l:Nat):EntAt ((((w.setCell ⟨c,i,none⟩ u0).setCell ⟨c,j,none⟩ u1).setCell ⟨c,k,none⟩ u2).setCell ⟨c,l,none⟩ u3) b o e :=
 h.of_block ((heap_setCell_other _ ⟨c,l,none⟩ b u3 hne).trans ((heap_setCell_other _ ⟨c,k,none⟩ b u2 hne).trans ((heap_setCell_other _ ⟨c,j,none⟩ b u1 hne).trans (heap_setCell_other w ⟨c,i,none⟩ b u0 hne))))
theorem zdf(ty:TypeId){w:World}{base bP:Nat}{v:Value}{ys:List ByteArray}{x:ByteArray}(hown:OwnS w base v ys)(hc:w.cell? ⟨bP,0,none⟩=some (.string x))(hl:ys.length≤1000000)(hbase:base≤w.heap.size) :
 ∃ v' w',(Builtin.append_ #[96,96] ty #[v,.slice (some ⟨bP,0,none⟩) 1 1]).run Tryz.prog w=.ok v' w'∧OwnS w' base v' (ys++[x])∧w.grownBy w' v.ownBlock:=by
 obtain⟨i0,hi,hz0,hz1,hz2⟩:=info_parts Tryz.info9;obtain⟨v',w',hrun,r1,r2,_⟩:=run_append_own (P:=Tryz.prog) w base 96 ty 9 i0 _ 1 16 Tryz.underlying96 hi hz0 hz1 hz2 rfl (by decide) v ys.length (SV ys) hown ⟨bP,0,none⟩ 1 1 [.string x] rfl (fun j u hj=>by
  match j,hj with
  | 0,hj=>simp at hj;subst hj;exact hc) (fun u hu=>by simp at hu;subst hu;rfl) (by unfold maxLen;omega) (by omega) hbase
 exact⟨v',w',hrun,zgP r1,r2⟩
theorem zaU{w:World}{ops:Array Oper}{o:Oper}{a:Act}{K:Act→World→Prop}{Q:Exit→Act→World→Prop}{E:Prop}(hgd:o.guard=none)(d:Nat)(hd:o.dst=some d)(s x:Operand)
 (ho:o.op=.call { callee:=.builtin .append,args:=#[s,x],argTypes:=#[96,96] }) (base bP:Nat) (v:Value) (ys:List ByteArray) (y:ByteArray) (hs:a.eval s=v) (hx:a.eval x=.slice (some ⟨bP,0,none⟩) 1 1) (hown:OwnS w base v ys) (hc:w.cell? ⟨bP,0,none⟩=some (.string y)) (hl:ys.length≤1000000) (hbase:base≤w.heap.size)
 (h:∀ v' w',OwnS w' base v' (ys++[y])→w.grownBy w' v.ownBlock→K (a.put (some d) v') w') :
 if Region.wanted o (yielded ops a.tmps)=true then Oper.wp Tryz.prog o a w K Q else E:=by
 have hw:Region.wanted o (yielded ops a.tmps)=true:=by simp[Region.wanted,hgd]
 rw[if_pos hw];obtain⟨v',w',hrun,r1,r2⟩:=zdf o.type hown hc hl hbase;unfold Oper.wp;simp[execOp,ho,resolve,invoke,builtin,hs,hx,hrun,Result.andThen];have h':=h v' w' r1 r2;rw[← hd] at h';exact h'
theorem zkL(a b:Int)(w:World):Calls Tryz.prog 55 #[.int .i64 a,.int .i64 b] w fun e w'=>e=.returned (.int .i64 (min a b))∧w'=w:=by
 by_cases h:a<b
 ·have hm:min a b=a:=by omega
  rw[hm];go_enter Tryz.func55,Tryz.ntmps55
  go_wp2;go_ret;exact⟨rfl,rfl⟩
 ·have hm:min a b=b:=by omega
  rw[hm];go_enter Tryz.func55,Tryz.ntmps55
  go_wp2;go_ret;exact⟨rfl,rfl⟩
def TabPost(w:World)(T:Tbl)(e:Ending)(w':World):Prop :=
 ∃ vb vk,e=.returned (.agg #[.string T.first,.string T.last,vb,vk])∧OwnI w' w.heap.size vb T.bits∧OwnS w' w.heap.size vk T.blocks∧Below w.heap.size w w'
theorem zl5{w:World}{b off n cap i k:Nat}{es:List Ent}(h:RdE w (.slice (some ⟨b,off,none⟩) n cap) es)(hi:i≤k)(hk:k≤es.length)(hlt:i<cap):RdE w (.slice (some ⟨b,off+i*4,none⟩) (k-i) (cap-i)) ((es.drop i).take (k-i)):=by
 obtain⟨a',cap',hv,h1,h2,h0,h3⟩:=h;simp only[Value.slice.injEq] at hv;obtain⟨rfl,_,rfl⟩:=hv;have hl:((es.drop i).take (k-i)).length=k-i:=by rw[List.length_take,List.length_drop];omega
 refine⟨_,_,by rw[hl],by omega,by omega,(fun h=>by cases h),?_⟩;rcases h3 with rfl | ⟨b',off',ha,hc⟩
 ·exact .inl (by simp)
 ·cases ha
  refine .inr ⟨b,off+i*4,rfl,fun j hj=>?_⟩;have hn:nth ((es.drop i).take (k-i)) j=nth es (i+j):=by
   rw[zE hj,zE (by omega),List.getElem_take,List.getElem_drop]
  rw[hn,show off+i*4+j*4=off+(i+j)*4 by omega];exact hc (i+j) (by omega)
theorem zpU(es:List Ent){n i:Nat}:blkF es (n+1) i=⟨(packA (chunk es i)).toArray⟩::blkF es n (i+8):=rfl
theorem zcN(v:Value)(es:List Ent)(w:World)(hr:RdE w v es)(hpk:∀ e∈es,PkE e)(hn:es.length≤400)(h0:0<es.length) :
 Calls Tryz.prog 93 #[v] w fun e w'=>TabPost w (zq es) e w':=by
 have HPK:Hid (∀ e∈es,PkE e):=hpk;have HKS:Hid (∀ e∈es,e.key.size≤1000000000):=fun e he=>by have:=(hpk e he).1;omega
 clear hpk;obtain⟨aU,cU,hvU,hU1,hU2,_⟩:=id hr;subst hvU;obtain⟨b,off,rfl,hc0⟩:=hr.at rfl 0 h0;obtain⟨b',off',hb',hcl⟩:=hr.at rfl (es.length-1) (by omega);cases hb'
 obtain⟨m,hm⟩:∃ m,m=es.length-1:=⟨_,rfl⟩;rw[← hm] at hcl;rw[Nat.zero_mul,Nat.add_zero] at hc0;obtain⟨e0,he0⟩:∃ e0,e0=nth es 0:=⟨_,rfl⟩;obtain⟨el,hel⟩:∃ el,el=nth es m:=⟨_,rfl⟩;rw[← he0] at hc0;rw[← hel] at hcl;have HBT:Hid (zq es=⟨e0.key,el.key,bitsL es,blksL es⟩):=by unfold Hid zq;rw[he0,hel,hm]
 obtain⟨nn,hnn⟩:∃ nn,nn=es.length:=⟨_,rfl⟩;obtain⟨bn,hbn⟩:∃ bn,bn=(bitsL es).length:=⟨_,rfl⟩;have HCB:Hid (∀ W,RdE W (.slice (some ⟨b,off,none⟩) nn cU) es→Calls Tryz.prog 133 #[.slice (some ⟨b,off,none⟩) nn cU] W fun e w'=>∃ ab cb,e=.returned (.slice ab bn cb)∧OwnI w' W.heap.size (.slice ab bn cb) (bitsL es)∧Below W.heap.size W w'):=fun W h=>(zh8 _ es W h HKS.out (by omega)).mono fun e w' ⟨u,he,ho,hb⟩=>by
  obtain⟨ab,cb,hv,_⟩:=ho.rd;rw[← hbn] at hv;subst hv;exact⟨ab,cb,he,ho,hb⟩
 have HNN:Hid (nn=es.length):=hnn;rw[← hnn] at hr hU1 hn h0 ⊢;have hnm:(nn:Int)-1=(m:Int):=by omega
 have hwm:IntKind.i64.wrap (m:Int)=(m:Int):=by rw[IntKind.wrap_i64];omega
 have hmn:m<nn:=by omega
 unfold maxLen at hU2;clear hnn hm he0 hel HKS hbn;have hz0:=zbQ w ⟨#[]⟩ ⟨#[]⟩ (.slice none 0 0) (.slice none 0 0);have b0:=za w (.cells #[.string ⟨#[]⟩,.string ⟨#[]⟩,.slice none 0 0,.slice none 0 0] 118);have hr0:=hr.below b0;have hc00:=hc0.below b0;have hcl0:=hcl.below b0;go_enter Tryz.func93,Tryz.ntmps93
 go_wp2_with fail
 refine wp_region_noPanic ?_;refine wp_region_held_drew (S:=fun w'=>EntAt w' b off e0∧EntAt w' b (off+m*4) el) (by kernel_rfl) ⟨hc00,hcl0⟩ (fun hH=>?_);have qz:BoxT (w.alloc (.cells #[.string ⟨#[]⟩,.string ⟨#[]⟩,.slice none 0 0,.slice none 0 0] 118)).drew w.heap.size ⟨#[]⟩ ⟨#[]⟩ (.slice none 0 0) (.slice none 0 0):=hz0;have qb:=b0.drew;have qr:RdE (w.alloc (.cells #[.string ⟨#[]⟩,.string ⟨#[]⟩,.slice none 0 0,.slice none 0 0] 118)).drew _ es:=hr0.drewN 1;clear hz0 b0 hr0 hc00 hcl0;revert qz;revert qb;revert qr;revert hH;generalize (w.alloc (.cells #[.string ⟨#[]⟩,.string ⟨#[]⟩,.slice none 0 0,.slice none 0 0] 118)).drew=W0;intro hH qr qb qz;have hlz:=qz.lt;refine kA 0 5 hH ?_;refine kA 1 6 hH ?_;refine kA 2 7 hH ?_;refine kA 3 8 hH ?_;refine kA 4 9 hH ?_;refine kA 5 10 hH ?_;refine kA 6 11 hH ?_;refine kA 7 12 hH ?_;refine kA 8 13 hH ?_;refine kA 9 14 hH ?_;refine kA 10 15 hH ?_;refine kA 11 16 hH ?_;refine wpAnyH_ready (rs:=[12,14]) (by kernel_rfl) (by simp) ?_;refine AllReadyH.cons rfl (fun K hK=>?_) ?_;go_simp;refine(HCB.out _ qr).mono ?_;rintro e W1 ⟨ab,cb,rfl,hvb,hb1⟩;have qo:=(hvb.mono qb.size).below (za _ (.cells #[.string e0.key,.string el.key,.slice ab bn cb,.slice none 0 0] 118));have qz1:=(qz.below hb1).below (za _ (.cells #[.string e0.key,.string el.key,.slice ab bn cb,.slice none 0 0] 118));have qb1:=(qb.trans (hb1.mono qb.size)).alloc (Nat.le_trans qb.size hb1.size) (.cells #[.string e0.key,.string el.key,.slice ab bn cb,.slice none 0 0] 118)
 have qx:=zbQ W1 e0.key el.key (.slice ab bn cb) (.slice none 0 0);have hlx:w.heap.size<W1.heap.size:=Nat.lt_of_lt_of_le hlz hb1.size;have hH1:(fun w'=>EntAt w' b off e0∧EntAt w' b (off+m*4) el) W1:=⟨hH.1.below hb1,hH.2.below hb1⟩;have hH2:(fun w'=>EntAt w' b off e0∧EntAt w' b (off+m*4) el) (W1.alloc (.cells #[.string ⟨#[]⟩,.string ⟨#[]⟩,.slice none 0 0,.slice none 0 0] 118)):=⟨hH1.1.below (za _ _),hH1.2.below (za _ _)⟩;have hH3:(fun w'=>EntAt w' b off e0∧EntAt w' b (off+m*4) el) (W1.alloc (.cells #[.string e0.key,.string el.key,.slice ab bn cb,.slice none 0 0] 118)):=⟨hH1.1.below (za _ _),hH1.2.below (za _ _)⟩;refine hK.out _ _ hH1 (fun h2=>?_);clear hK K;try simp only[Act.put,sA,sZ,sS]
 refine kA 13 18 h2 ?_;refine rdy 14 (fun K hK=>?_);go_simp;refine hK.out _ _ hH2 (fun h3=>?_);clear hK K;try simp only[Act.put,sA,sZ,sS]
 obtain⟨z0,z1,z2,z3,f0,f1,f2,f3⟩:=(zbQ W1 ⟨#[]⟩ ⟨#[]⟩ (.slice none 0 0) (.slice none 0 0)).facts;refine rdy 15 (fun K hK=>?_);go_simp;refine hK.out _ _ hH3 (fun h4=>?_);clear hK K;try simp only[Act.put,sA,sZ,sS]
 refine dne ?_;clear hvb hH hH1 hH2 hH3 h2 h3 h4 z0 z1 z2 z3 f0 f1 f2 f3 qr qb qz hlz hb1;generalize W1.heap.size=b3 at qx hlx ⊢;generalize W1.alloc (.cells #[.string e0.key,.string el.key,.slice ab bn cb,.slice none 0 0] 118)=W4 at qo qz1 qb1 qx ⊢;clear W1;revert hlx;revert qx;revert qb1;revert qz1;revert qo;revert b3;revert cb;revert ab;revert W4;clear W0;refine ?tail;rotate_left 1;refine AllReadyH.cons rfl (fun K hK=>?_) AllReadyH.nil;go_simp;have hz1:=zbQ W0 ⟨#[]⟩ ⟨#[]⟩ (.slice none 0 0) (.slice none 0 0);have hHa:(fun w'=>EntAt w' b off e0∧EntAt w' b (off+m*4) el) (W0.alloc (.cells #[.string ⟨#[]⟩,.string ⟨#[]⟩,.slice none 0 0,.slice none 0 0] 118)):=⟨hH.1.below (za _ _),hH.2.below (za _ _)⟩;have qr1:=qr.below (za _ (.cells #[.string ⟨#[]⟩,.string ⟨#[]⟩,.slice none 0 0,.slice none 0 0] 118));have qb0:=qb.alloc qb.size (.cells #[.string ⟨#[]⟩,.string ⟨#[]⟩,.slice none 0 0,.slice none 0 0] 118);have qz0:=qz.below (za _ (.cells #[.string ⟨#[]⟩,.string ⟨#[]⟩,.slice none 0 0,.slice none 0 0] 118));refine hK.out _ _ hHa (fun h2=>?_);clear hK K;try simp only[Act.put,sA,sZ,sS]
 refine rdy 12 (fun K hK=>?_);go_simp;refine(HCB.out _ qr1).mono ?_;rintro e W1 ⟨ab,cb,rfl,hvb,hb1⟩;have hHb:(fun w'=>EntAt w' b off e0∧EntAt w' b (off+m*4) el) W1:=⟨hHa.1.below hb1,hHa.2.below hb1⟩;have hz2:=hz1.below hb1;have qzz:=qz0.below hb1;have qbb:=qb0.trans (hb1.mono qb0.size);have hvv:=hvb.mono qb0.size;have hlx:w.heap.size<W0.heap.size:=hlz;refine hK.out _ _ hHb (fun h3=>?_);clear hK K;try simp only[Act.put,sA,sZ,sS]
 refine kA 13 18 h3 ?_;obtain⟨z0,z1,z2,z3,f0,f1,f2,f3⟩:=hz2.facts;have qx:=zq5 (f':=e0.key) (l':=el.key) (vb':=.slice ab bn cb) (vk':=.slice none 0 0) hz2;have nz:∀ k,(Value.slice ab bn cb).ownBlock=some k→W0.heap.size≠k:=zJ hz2 hvv (by decide);have qo:OwnI ((((W1.setCell ⟨W0.heap.size,0,none⟩ (.string e0.key)).setCell ⟨W0.heap.size,1,none⟩ (.string el.key)).setCell ⟨W0.heap.size,2,none⟩ (.slice ab bn cb)).setCell ⟨W0.heap.size,3,none⟩ (.slice none 0 0)) w.heap.size (.slice ab bn cb) (bitsL es):=zg (zg (zg (zg hvv nz) nz) nz) nz;have qz1:BoxT ((((W1.setCell ⟨W0.heap.size,0,none⟩ (.string e0.key)).setCell ⟨W0.heap.size,1,none⟩ (.string el.key)).setCell ⟨W0.heap.size,2,none⟩ (.slice ab bn cb)).setCell ⟨W0.heap.size,3,none⟩ (.slice none 0 0)) w.heap.size ⟨#[]⟩ ⟨#[]⟩ (.slice none 0 0) (.slice none 0 0):=qzz.block ((heap_setCell_other _ ⟨W0.heap.size,3,none⟩ _ _ (Nat.ne_of_lt hlx)).trans ((heap_setCell_other _ ⟨W0.heap.size,2,none⟩ _ _ (Nat.ne_of_lt hlx)).trans ((heap_setCell_other _ ⟨W0.heap.size,1,none⟩ _ _ (Nat.ne_of_lt hlx)).trans (heap_setCell_other W1 ⟨W0.heap.size,0,none⟩ _ _ (Nat.ne_of_lt hlx)))));have qb1:=zba qbb (Nat.le_of_lt hlx) (.string e0.key) (.string el.key) (.slice ab bn cb) (.slice none 0 0) 0 1 2 3;have nb:b≠W0.heap.size:=Nat.ne_of_lt hH.1.lt
 have hHc:(fun w'=>EntAt w' b off e0∧EntAt w' b (off+m*4) el) ((((W1.setCell ⟨W0.heap.size,0,none⟩ (.string e0.key)).setCell ⟨W0.heap.size,1,none⟩ (.string el.key)).setCell ⟨W0.heap.size,2,none⟩ (.slice ab bn cb)).setCell ⟨W0.heap.size,3,none⟩ (.slice none 0 0)):=⟨zdY hHb.1 nb _ _ _ _ _ _ _ _,zdY hHb.2 nb _ _ _ _ _ _ _ _⟩;refine rdy 15 (fun K hK=>?_);go_simp;refine hK.out _ _ hHc (fun h4=>?_);clear hK K;try simp only[Act.put,sA,sZ,sS]
 refine dne ?_;generalize ((((W1.setCell ⟨W0.heap.size,0,none⟩ (.string e0.key)).setCell ⟨W0.heap.size,1,none⟩ (.string el.key)).setCell ⟨W0.heap.size,2,none⟩ (.slice ab bn cb)).setCell ⟨W0.heap.size,3,none⟩ (.slice none 0 0))=W4 at qo qz1 qb1 qx hHc h4 ⊢;clear hHa hHb hHc h2 h3 h4 z0 z1 z2 z3 f0 f1 f2 f3 qr1 qb0 qz0 hz1 hz2 qzz qbb hvv nz nb hvb hb1 hH qr qb qz hlz;revert hlx;revert qx;revert qb1;revert qz1;revert qo;generalize W0.heap.size=b3;clear W1;revert b3;revert cb;revert ab;revert W4;clear W0;refine ?tail;intro W4 ab cb b3 qo qz1 qb1 qx hlx;have HB0:Hid (([]:List ByteArray)++blkF es ((nn+7-0) / 8) 0=blksL es):=by unfold Hid blksL;rw[← HNN.out];rfl
 go_wp2;go_loopw [4] (fun i wr=>∃ (k sn:Nat) (ak:Option Addr) (ck:Nat) (ss:List ByteArray),i=.int .i64 k∧k % 8=0∧k≤nn+7∧Hid (sn=ss.length)∧sn*8≤k∧Hid (ss++blkF es ((nn+7-k) / 8) k=blksL es)∧BoxT wr b3 e0.key el.key (.slice ab bn cb) (.slice ak sn ck)∧OwnS wr w.heap.size (.slice ak sn ck) ss∧OwnI wr w.heap.size (.slice ab bn cb) (bitsL es)∧BoxT wr w.heap.size ⟨#[]⟩ ⟨#[]⟩ (.slice none 0 0) (.slice none 0 0)∧Below w.heap.size w wr) (fun i _=>nn+8-(intOf i).toNat)
 case atStart=>exact⟨0,0,none,0,[],rfl,rfl,by omega,rfl,by omega,HB0,qx,⟨rfl,.inl ⟨rfl,rfl⟩⟩,qo,qz1,qb1⟩
 case round =>
  obtain⟨k,sn,ak,ck,ss,rfl,hk8,hk7,HSN,hsn8,HB,hx,hos,hob,hz,hb⟩:=hrel;clear qo qz1 qb1 qx HB0;by_cases hlt:k<nn
  ·skip
   obtain⟨k2,hk2⟩:∃ k2,k2=min nn (k+8):=⟨_,rfl⟩;have hmin:min (nn:Int) ((k:Int)+8)=(k2:Int):=by omega
   have hk2a:k≤k2:=by omega
   have hk2b:k2≤nn:=by omega
   have HCH:Hid ((es.drop k).take (k2-k)=chunk es k):=by
    unfold Hid chunk;have:=HNN.out;by_cases h8:k+8≤nn
    ·rw[show k2-k=8 by omega]
    ·rw[List.take_of_length_le (by rw[List.length_drop];omega),List.take_of_length_le (by rw[List.length_drop];omega)]
   have HPC:Hid (∀ e∈chunk es k,PkE e):=fun e he=>HPK.out e (List.mem_of_mem_drop (List.mem_of_mem_take he))
   have hcl8:(chunk es k).length≤400:=by unfold chunk;rw[List.length_take];omega
   have hkc:k<cU:=by omega
   have hk2c:k2≤cU:=by omega
   have hckn:¬ cU=k:=by omega
   obtain⟨sb,hsb⟩:∃ sb:ByteArray,sb=⟨(packA (chunk es k)).toArray⟩:=⟨_,rfl⟩;have HCV:Hid (∀ W B u,Own W B u (packA (chunk es k))→(convert 105 9 u).run Tryz.prog W=.ok (.string sb) W):=fun W B u h=>by rw[hsb];exact zdN h
   have HB2:Hid ((ss++[sb])++blkF es ((nn+7-(k+8)) / 8) (k+8)=blksL es):=by
    unfold Hid;rw[← HB.out,show (nn+7-k) / 8=(nn+7-(k+8)) / 8+1 by omega,zpU,hsb,List.append_assoc];rfl
   have hw8:IntKind.i64.wrap ((k:Int)+8)=(k:Int)+8:=by rw[IntKind.wrap_i64];omega
   clear hk2 hsb HB;obtain⟨x0,x1,x2,x3,y0,y1,y2,y3⟩:=hx.facts;go_wp2_with fail
   refine wp_region_noPanic ?_;refine wp_region_held_drew (S:=fun _=>True) (by kernel_rfl) trivial (fun hT=>?_);have px:BoxT wr.drew b3 e0.key el.key (.slice ab bn cb) (.slice ak sn ck):=hx;have ps:OwnS wr.drew w.heap.size (.slice ak sn ck) ss:=hos;have pb:OwnI wr.drew w.heap.size (.slice ab bn cb) (bitsL es):=hob;have pz:BoxT wr.drew w.heap.size ⟨#[]⟩ ⟨#[]⟩ (.slice none 0 0) (.slice none 0 0):=hz;have pw:=hb.drew;clear hx hos hob hz hb x0 x1 x2 x3 y0 y1 y2 y3;revert px;revert ps;revert pb;revert pz;revert pw;revert hT;generalize wr.drew=W0;intro hT pw pz pb ps px;refine kA 0 25 hT ?_;refine kA 2 27 hT ?_;refine kA 3 28 hT ?_;refine kA 4 29 hT ?_;refine kA 5 30 hT ?_;refine kA 6 31 hT ?_;refine kA 7 32 hT ?_;refine wpAnyH_ready (rs:=[1,8]) (by kernel_rfl) (by simp) ?_;refine AllReadyH.cons rfl (fun K hK=>?_) ?_
   ·skip
    obtain⟨x0,x1,x2,x3,y0,y1,y2,y3⟩:=px.facts;go_simp;refine hK.out _ _ trivial (fun hQ=>?_);clear hK K hQ x0 x1 x2 x3 y0 y1 y2 y3;try simp only[Act.put,sA,sZ,sS]
    refine rdy 8 (fun K hK=>?_);go_simp;refine(zkL _ _ _).mono ?_;rw[hmin];rintro e wq ⟨rfl,hwq⟩;obtain rfl:=hwq.symm;refine hK.out _ _ trivial (fun hQ=>?_);clear hK K hQ;try simp only[Act.put,sA,sZ,sS]
    refine kA 9 34 hT ?_;refine rdy 10 (fun K hK=>?_);go_simp;refine(zbU _ (chunk es k) _ (by rw[← HCH.out];exact zl5 (hr.below pw) hk2a (by rw[← HNN.out];exact hk2b) hkc) HPC.out hcl8).mono ?_;rintro e W2 ⟨u2,rfl,qu,hb2⟩;replace px:=px.below hb2;replace ps:=ps.below hb2;replace pb:=pb.below hb2;replace pz:=pz.below hb2;replace pw:=pw.trans (hb2.mono pw.size);refine hK.out _ _ trivial (fun hQ=>?_);clear hK K hb2 hQ;try simp only[Act.put,sA,sZ,sS]
    have hJ:(fun w'=>(convert 105 9 u2).run Tryz.prog w'=.ok (.string sb) w') W2:=HCV.out _ _ _ qu;refine zbm (S':=(fun w'=>(convert 105 9 u2).run Tryz.prog w'=.ok (.string sb) w')) (fun _ _=>trivial) _ _ _ _ ?_;refine kA 11 36 hJ ?_;refine rdy 12 (fun K hK=>?_);go_simp;have bS:=za W2 (.cells #[.string sb] 9);have hcS:(W2.alloc (.cells #[.string sb] 9)).cell? ⟨W2.heap.size,0,none⟩=some (.string sb):=by simp
    replace qu:=qu.below bS;replace px:=px.below bS;replace ps:=ps.below bS;replace pb:=pb.below bS;replace pz:=pz.below bS;replace pw:=pw.trans (bS.mono pw.size);refine hK.out _ _ (HCV.out _ _ _ qu) (fun hQ=>?_);clear hK K bS hQ hJ;try simp only[Act.put,sA,sZ,sS]
    have hJ:(fun w'=>(convert 105 9 u2).run Tryz.prog w'=.ok (.string sb) w') (W2.alloc (.cells #[.string sb] 9)):=HCV.out _ _ _ qu;refine rdy 13 (fun K hK=>?_);refine zaU rfl 38 rfl _ _ rfl w.heap.size W2.heap.size (.slice ak sn ck) ss sb rfl rfl ps hcS (by rw[← HSN.out];omega) pw.size ?_;intro v5 w5 ho5 hg5;have nx:=zJ px ps (by decide);have nz:=zJ pz ps (by decide);have px5:BoxT w5 b3 e0.key el.key (.slice ab bn cb) (.slice ak sn ck):=px.block (hg5.block _ px.lt (fun e=>nx _ e.symm rfl));have pz5:BoxT w5 w.heap.size ⟨#[]⟩ ⟨#[]⟩ (.slice none 0 0) (.slice none 0 0):=pz.block (hg5.block _ pz.lt (fun e=>nz _ e.symm rfl));have pb5:OwnI w5 w.heap.size (.slice ab bn cb) (bitsL es):=zj pb hg5 (fun j hj e=>zh pb ps (by decide) j hj e);have qu5:Own w5 _ u2 (packA (chunk es k)):=zj qu hg5 (fun j hj e=>zh qu ps (by decide) j hj e);have pw5:=pw.grown hg5 pw.size (fun j hj=>(World.ownsRow.lt ps j hj).1);refine hK.out _ _ (HCV.out _ _ _ qu5) (fun hQ=>?_);clear hK K px ps pb pz pw hJ hQ hg5 nx nz qu hcS;try simp only[Act.put,sA,sZ,sS]
    obtain⟨s5,hs5⟩:∃ s5,s5=(ss++[sb]).length:=⟨_,rfl⟩;obtain⟨a5,c5,hv5,_⟩:=id ho5.rd;rw[← hs5] at hv5;subst hv5;have HS5:Hid (s5=(ss++[sb]).length):=hs5;have hs58:s5*8≤k+8:=by rw[hs5,List.length_append,← HSN.out];simp;omega
    clear hs5;obtain⟨x0,x1,x2,x3,y0,y1,y2,y3⟩:=px5.facts;have px6:=zfe (vk':=.slice a5 s5 c5) px5;have no6:=zJ px5 ho5 (by decide);have nb6:=zJ px5 pb5 (by decide);have nu6:=zJ px5 qu5 (by decide);have po6:OwnS (w5.setCell ⟨b3,3,none⟩ (.slice a5 s5 c5)) w.heap.size (.slice a5 s5 c5) (ss++[sb]):=zg ho5 no6;have pb6:OwnI (w5.setCell ⟨b3,3,none⟩ (.slice a5 s5 c5)) w.heap.size (.slice ab bn cb) (bitsL es):=zg pb5 nb6;have qu6:Own (w5.setCell ⟨b3,3,none⟩ (.slice a5 s5 c5)) _ u2 (packA (chunk es k)):=zg qu5 nu6;have pz6:BoxT (w5.setCell ⟨b3,3,none⟩ (.slice a5 s5 c5)) w.heap.size ⟨#[]⟩ ⟨#[]⟩ (.slice none 0 0) (.slice none 0 0):=pz5.block (heap_setCell_other w5 ⟨b3,3,none⟩ _ _ (Nat.ne_of_lt hlx));have pw6:Below w.heap.size w (w5.setCell ⟨b3,3,none⟩ (.slice a5 s5 c5)):=pw5.setCell (Nat.le_of_lt hlx) _;have hJ5:(fun w'=>(convert 105 9 u2).run Tryz.prog w'=.ok (.string sb) w') w5:=HCV.out _ _ _ qu5;refine kA 14 39 hJ5 ?_;refine rdy 15 (fun K hK=>?_);go_simp;refine hK.out _ _ (HCV.out _ _ _ qu6) (fun hQ=>?_);clear hK K;try simp only[Act.put,sA,sZ,sS]
    refine dne ?_;generalize w5.setCell ⟨b3,3,none⟩ (.slice a5 s5 c5)=W6 at px6 po6 pb6 pz6 pw6 ⊢;clear px5 pz5 pb5 qu5 pw5 qu6 ho5 no6 nb6 nu6 x0 x1 x2 x3 y0 y1 y2 y3;go_wp2;go_roundw
    case rel=>exact⟨k+8,s5,a5,c5,ss++[sb],by go_num,by omega,by omega,HS5,hs58,HB2,px6,po6,pb6,pz6,pw6⟩
    case measure=>simp[intOf];omega
   ·skip
    refine AllReadyH.cons rfl (fun K hK=>?_) AllReadyH.nil;go_simp;refine(zkL _ _ _).mono ?_;rw[hmin];rintro e wq ⟨rfl,hwq⟩;obtain rfl:=hwq.symm;refine hK.out _ _ trivial (fun hQ=>?_);clear hK K hQ;try simp only[Act.put,sA,sZ,sS]
    refine kA 9 34 hT ?_;refine wpAnyH_ready (rs:=[1,10]) (by kernel_rfl) (by simp) ?_;refine AllReadyH.cons rfl (fun K hK=>?_) ?_
    ·skip
     obtain⟨x0,x1,x2,x3,y0,y1,y2,y3⟩:=px.facts;go_simp;refine hK.out _ _ trivial (fun hQ=>?_);clear hK K hQ x0 x1 x2 x3 y0 y1 y2 y3;try simp only[Act.put,sA,sZ,sS]
     refine rdy 10 (fun K hK=>?_);go_simp;refine(zbU _ (chunk es k) _ (by rw[← HCH.out];exact zl5 (hr.below pw) hk2a (by rw[← HNN.out];exact hk2b) hkc) HPC.out hcl8).mono ?_;rintro e W2 ⟨u2,rfl,qu,hb2⟩;replace px:=px.below hb2;replace ps:=ps.below hb2;replace pb:=pb.below hb2;replace pz:=pz.below hb2;replace pw:=pw.trans (hb2.mono pw.size);refine hK.out _ _ trivial (fun hQ=>?_);clear hK K hb2 hQ;try simp only[Act.put,sA,sZ,sS]
     have hJ:(fun w'=>(convert 105 9 u2).run Tryz.prog w'=.ok (.string sb) w') W2:=HCV.out _ _ _ qu;refine zbm (S':=(fun w'=>(convert 105 9 u2).run Tryz.prog w'=.ok (.string sb) w')) (fun _ _=>trivial) _ _ _ _ ?_;refine kA 11 36 hJ ?_;refine rdy 12 (fun K hK=>?_);go_simp;have bS:=za W2 (.cells #[.string sb] 9);have hcS:(W2.alloc (.cells #[.string sb] 9)).cell? ⟨W2.heap.size,0,none⟩=some (.string sb):=by simp
     replace qu:=qu.below bS;replace px:=px.below bS;replace ps:=ps.below bS;replace pb:=pb.below bS;replace pz:=pz.below bS;replace pw:=pw.trans (bS.mono pw.size);refine hK.out _ _ (HCV.out _ _ _ qu) (fun hQ=>?_);clear hK K bS hQ hJ;try simp only[Act.put,sA,sZ,sS]
     have hJ:(fun w'=>(convert 105 9 u2).run Tryz.prog w'=.ok (.string sb) w') (W2.alloc (.cells #[.string sb] 9)):=HCV.out _ _ _ qu;refine rdy 13 (fun K hK=>?_);refine zaU rfl 38 rfl _ _ rfl w.heap.size W2.heap.size (.slice ak sn ck) ss sb rfl rfl ps hcS (by rw[← HSN.out];omega) pw.size ?_;intro v5 w5 ho5 hg5;have nx:=zJ px ps (by decide);have nz:=zJ pz ps (by decide);have px5:BoxT w5 b3 e0.key el.key (.slice ab bn cb) (.slice ak sn ck):=px.block (hg5.block _ px.lt (fun e=>nx _ e.symm rfl));have pz5:BoxT w5 w.heap.size ⟨#[]⟩ ⟨#[]⟩ (.slice none 0 0) (.slice none 0 0):=pz.block (hg5.block _ pz.lt (fun e=>nz _ e.symm rfl));have pb5:OwnI w5 w.heap.size (.slice ab bn cb) (bitsL es):=zj pb hg5 (fun j hj e=>zh pb ps (by decide) j hj e);have qu5:Own w5 _ u2 (packA (chunk es k)):=zj qu hg5 (fun j hj e=>zh qu ps (by decide) j hj e);have pw5:=pw.grown hg5 pw.size (fun j hj=>(World.ownsRow.lt ps j hj).1);refine hK.out _ _ (HCV.out _ _ _ qu5) (fun hQ=>?_);clear hK K px ps pb pz pw hJ hQ hg5 nx nz qu hcS;try simp only[Act.put,sA,sZ,sS]
     obtain⟨s5,hs5⟩:∃ s5,s5=(ss++[sb]).length:=⟨_,rfl⟩;obtain⟨a5,c5,hv5,_⟩:=id ho5.rd;rw[← hs5] at hv5;subst hv5;have HS5:Hid (s5=(ss++[sb]).length):=hs5;have hs58:s5*8≤k+8:=by rw[hs5,List.length_append,← HSN.out];simp;omega
     clear hs5;obtain⟨x0,x1,x2,x3,y0,y1,y2,y3⟩:=px5.facts;have px6:=zfe (vk':=.slice a5 s5 c5) px5;have no6:=zJ px5 ho5 (by decide);have nb6:=zJ px5 pb5 (by decide);have nu6:=zJ px5 qu5 (by decide);have po6:OwnS (w5.setCell ⟨b3,3,none⟩ (.slice a5 s5 c5)) w.heap.size (.slice a5 s5 c5) (ss++[sb]):=zg ho5 no6;have pb6:OwnI (w5.setCell ⟨b3,3,none⟩ (.slice a5 s5 c5)) w.heap.size (.slice ab bn cb) (bitsL es):=zg pb5 nb6;have qu6:Own (w5.setCell ⟨b3,3,none⟩ (.slice a5 s5 c5)) _ u2 (packA (chunk es k)):=zg qu5 nu6;have pz6:BoxT (w5.setCell ⟨b3,3,none⟩ (.slice a5 s5 c5)) w.heap.size ⟨#[]⟩ ⟨#[]⟩ (.slice none 0 0) (.slice none 0 0):=pz5.block (heap_setCell_other w5 ⟨b3,3,none⟩ _ _ (Nat.ne_of_lt hlx));have pw6:Below w.heap.size w (w5.setCell ⟨b3,3,none⟩ (.slice a5 s5 c5)):=pw5.setCell (Nat.le_of_lt hlx) _;have hJ5:(fun w'=>(convert 105 9 u2).run Tryz.prog w'=.ok (.string sb) w') w5:=HCV.out _ _ _ qu5;refine kA 14 39 hJ5 ?_;refine rdy 15 (fun K hK=>?_);go_simp;refine hK.out _ _ (HCV.out _ _ _ qu6) (fun hQ=>?_);clear hK K;try simp only[Act.put,sA,sZ,sS]
     refine dne ?_;generalize w5.setCell ⟨b3,3,none⟩ (.slice a5 s5 c5)=W6 at px6 po6 pb6 pz6 pw6 ⊢;clear px5 pz5 pb5 qu5 pw5 qu6 ho5 no6 nb6 nu6 x0 x1 x2 x3 y0 y1 y2 y3;go_wp2;go_roundw
     case rel=>exact⟨k+8,s5,a5,c5,ss++[sb],by go_num,by omega,by omega,HS5,hs58,HB2,px6,po6,pb6,pz6,pw6⟩
     case measure=>simp[intOf];omega
    ·skip
     refine AllReadyH.cons rfl (fun K hK=>?_) AllReadyH.nil;go_simp;refine(zbU _ (chunk es k) _ (by rw[← HCH.out];exact zl5 (hr.below pw) hk2a (by rw[← HNN.out];exact hk2b) hkc) HPC.out hcl8).mono ?_;rintro e W2 ⟨u2,rfl,qu,hb2⟩;replace px:=px.below hb2;replace ps:=ps.below hb2;replace pb:=pb.below hb2;replace pz:=pz.below hb2;replace pw:=pw.trans (hb2.mono pw.size);refine hK.out _ _ trivial (fun hQ=>?_);clear hK K hb2 hQ;try simp only[Act.put,sA,sZ,sS]
     have hJ:(fun w'=>(convert 105 9 u2).run Tryz.prog w'=.ok (.string sb) w') W2:=HCV.out _ _ _ qu;refine zbm (S':=(fun w'=>(convert 105 9 u2).run Tryz.prog w'=.ok (.string sb) w')) (fun _ _=>trivial) _ _ _ _ ?_;refine kA 11 36 hJ ?_;refine wpAnyH_ready (rs:=[1,12]) (by kernel_rfl) (by simp) ?_;refine AllReadyH.cons rfl (fun K hK=>?_) ?_
     ·skip
      obtain⟨x0,x1,x2,x3,y0,y1,y2,y3⟩:=px.facts;go_simp;refine hK.out _ _ (HCV.out _ _ _ qu) (fun hQ=>?_);clear hK K hQ x0 x1 x2 x3 y0 y1 y2 y3;try simp only[Act.put,sA,sZ,sS]
      refine rdy 12 (fun K hK=>?_);go_simp;have bS:=za W2 (.cells #[.string sb] 9);have hcS:(W2.alloc (.cells #[.string sb] 9)).cell? ⟨W2.heap.size,0,none⟩=some (.string sb):=by simp
      replace qu:=qu.below bS;replace px:=px.below bS;replace ps:=ps.below bS;replace pb:=pb.below bS;replace pz:=pz.below bS;replace pw:=pw.trans (bS.mono pw.size);refine hK.out _ _ (HCV.out _ _ _ qu) (fun hQ=>?_);clear hK K bS hQ hJ;try simp only[Act.put,sA,sZ,sS]
      have hJ:(fun w'=>(convert 105 9 u2).run Tryz.prog w'=.ok (.string sb) w') (W2.alloc (.cells #[.string sb] 9)):=HCV.out _ _ _ qu;refine rdy 13 (fun K hK=>?_);refine zaU rfl 38 rfl _ _ rfl w.heap.size W2.heap.size (.slice ak sn ck) ss sb rfl rfl ps hcS (by rw[← HSN.out];omega) pw.size ?_;intro v5 w5 ho5 hg5;have nx:=zJ px ps (by decide);have nz:=zJ pz ps (by decide);have px5:BoxT w5 b3 e0.key el.key (.slice ab bn cb) (.slice ak sn ck):=px.block (hg5.block _ px.lt (fun e=>nx _ e.symm rfl));have pz5:BoxT w5 w.heap.size ⟨#[]⟩ ⟨#[]⟩ (.slice none 0 0) (.slice none 0 0):=pz.block (hg5.block _ pz.lt (fun e=>nz _ e.symm rfl));have pb5:OwnI w5 w.heap.size (.slice ab bn cb) (bitsL es):=zj pb hg5 (fun j hj e=>zh pb ps (by decide) j hj e);have qu5:Own w5 _ u2 (packA (chunk es k)):=zj qu hg5 (fun j hj e=>zh qu ps (by decide) j hj e);have pw5:=pw.grown hg5 pw.size (fun j hj=>(World.ownsRow.lt ps j hj).1);refine hK.out _ _ (HCV.out _ _ _ qu5) (fun hQ=>?_);clear hK K px ps pb pz pw hJ hQ hg5 nx nz qu hcS;try simp only[Act.put,sA,sZ,sS]
      obtain⟨s5,hs5⟩:∃ s5,s5=(ss++[sb]).length:=⟨_,rfl⟩;obtain⟨a5,c5,hv5,_⟩:=id ho5.rd;rw[← hs5] at hv5;subst hv5;have HS5:Hid (s5=(ss++[sb]).length):=hs5;have hs58:s5*8≤k+8:=by rw[hs5,List.length_append,← HSN.out];simp;omega
      clear hs5;obtain⟨x0,x1,x2,x3,y0,y1,y2,y3⟩:=px5.facts;have px6:=zfe (vk':=.slice a5 s5 c5) px5;have no6:=zJ px5 ho5 (by decide);have nb6:=zJ px5 pb5 (by decide);have nu6:=zJ px5 qu5 (by decide);have po6:OwnS (w5.setCell ⟨b3,3,none⟩ (.slice a5 s5 c5)) w.heap.size (.slice a5 s5 c5) (ss++[sb]):=zg ho5 no6;have pb6:OwnI (w5.setCell ⟨b3,3,none⟩ (.slice a5 s5 c5)) w.heap.size (.slice ab bn cb) (bitsL es):=zg pb5 nb6;have qu6:Own (w5.setCell ⟨b3,3,none⟩ (.slice a5 s5 c5)) _ u2 (packA (chunk es k)):=zg qu5 nu6;have pz6:BoxT (w5.setCell ⟨b3,3,none⟩ (.slice a5 s5 c5)) w.heap.size ⟨#[]⟩ ⟨#[]⟩ (.slice none 0 0) (.slice none 0 0):=pz5.block (heap_setCell_other w5 ⟨b3,3,none⟩ _ _ (Nat.ne_of_lt hlx));have pw6:Below w.heap.size w (w5.setCell ⟨b3,3,none⟩ (.slice a5 s5 c5)):=pw5.setCell (Nat.le_of_lt hlx) _;have hJ5:(fun w'=>(convert 105 9 u2).run Tryz.prog w'=.ok (.string sb) w') w5:=HCV.out _ _ _ qu5;refine kA 14 39 hJ5 ?_;refine rdy 15 (fun K hK=>?_);go_simp;refine hK.out _ _ (HCV.out _ _ _ qu6) (fun hQ=>?_);clear hK K;try simp only[Act.put,sA,sZ,sS]
      refine dne ?_;generalize w5.setCell ⟨b3,3,none⟩ (.slice a5 s5 c5)=W6 at px6 po6 pb6 pz6 pw6 ⊢;clear px5 pz5 pb5 qu5 pw5 qu6 ho5 no6 nb6 nu6 x0 x1 x2 x3 y0 y1 y2 y3;go_wp2;go_roundw
      case rel=>exact⟨k+8,s5,a5,c5,ss++[sb],by go_num,by omega,by omega,HS5,hs58,HB2,px6,po6,pb6,pz6,pw6⟩
      case measure=>simp[intOf];omega
     ·skip
      refine AllReadyH.cons rfl (fun K hK=>?_) AllReadyH.nil;go_simp;have bS:=za W2 (.cells #[.string sb] 9);have hcS:(W2.alloc (.cells #[.string sb] 9)).cell? ⟨W2.heap.size,0,none⟩=some (.string sb):=by simp
      replace qu:=qu.below bS;replace px:=px.below bS;replace ps:=ps.below bS;replace pb:=pb.below bS;replace pz:=pz.below bS;replace pw:=pw.trans (bS.mono pw.size);refine hK.out _ _ (HCV.out _ _ _ qu) (fun hQ=>?_);clear hK K bS hQ hJ;try simp only[Act.put,sA,sZ,sS]
      have hJ:(fun w'=>(convert 105 9 u2).run Tryz.prog w'=.ok (.string sb) w') (W2.alloc (.cells #[.string sb] 9)):=HCV.out _ _ _ qu;refine rdy 1 (fun K hK=>?_);obtain⟨x0,x1,x2,x3,y0,y1,y2,y3⟩:=px.facts;go_simp;refine hK.out _ _ (HCV.out _ _ _ qu) (fun hQ=>?_);clear hK K hQ x0 x1 x2 x3 y0 y1 y2 y3;try simp only[Act.put,sA,sZ,sS]
      refine rdy 13 (fun K hK=>?_);refine zaU rfl 38 rfl _ _ rfl w.heap.size W2.heap.size (.slice ak sn ck) ss sb rfl rfl ps hcS (by rw[← HSN.out];omega) pw.size ?_;intro v5 w5 ho5 hg5;have nx:=zJ px ps (by decide);have nz:=zJ pz ps (by decide);have px5:BoxT w5 b3 e0.key el.key (.slice ab bn cb) (.slice ak sn ck):=px.block (hg5.block _ px.lt (fun e=>nx _ e.symm rfl));have pz5:BoxT w5 w.heap.size ⟨#[]⟩ ⟨#[]⟩ (.slice none 0 0) (.slice none 0 0):=pz.block (hg5.block _ pz.lt (fun e=>nz _ e.symm rfl));have pb5:OwnI w5 w.heap.size (.slice ab bn cb) (bitsL es):=zj pb hg5 (fun j hj e=>zh pb ps (by decide) j hj e);have qu5:Own w5 _ u2 (packA (chunk es k)):=zj qu hg5 (fun j hj e=>zh qu ps (by decide) j hj e);have pw5:=pw.grown hg5 pw.size (fun j hj=>(World.ownsRow.lt ps j hj).1);refine hK.out _ _ (HCV.out _ _ _ qu5) (fun hQ=>?_);clear hK K px ps pb pz pw hJ hQ hg5 nx nz qu hcS;try simp only[Act.put,sA,sZ,sS]
      obtain⟨s5,hs5⟩:∃ s5,s5=(ss++[sb]).length:=⟨_,rfl⟩;obtain⟨a5,c5,hv5,_⟩:=id ho5.rd;rw[← hs5] at hv5;subst hv5;have HS5:Hid (s5=(ss++[sb]).length):=hs5;have hs58:s5*8≤k+8:=by rw[hs5,List.length_append,← HSN.out];simp;omega
      clear hs5;obtain⟨x0,x1,x2,x3,y0,y1,y2,y3⟩:=px5.facts;have px6:=zfe (vk':=.slice a5 s5 c5) px5;have no6:=zJ px5 ho5 (by decide);have nb6:=zJ px5 pb5 (by decide);have nu6:=zJ px5 qu5 (by decide);have po6:OwnS (w5.setCell ⟨b3,3,none⟩ (.slice a5 s5 c5)) w.heap.size (.slice a5 s5 c5) (ss++[sb]):=zg ho5 no6;have pb6:OwnI (w5.setCell ⟨b3,3,none⟩ (.slice a5 s5 c5)) w.heap.size (.slice ab bn cb) (bitsL es):=zg pb5 nb6;have qu6:Own (w5.setCell ⟨b3,3,none⟩ (.slice a5 s5 c5)) _ u2 (packA (chunk es k)):=zg qu5 nu6;have pz6:BoxT (w5.setCell ⟨b3,3,none⟩ (.slice a5 s5 c5)) w.heap.size ⟨#[]⟩ ⟨#[]⟩ (.slice none 0 0) (.slice none 0 0):=pz5.block (heap_setCell_other w5 ⟨b3,3,none⟩ _ _ (Nat.ne_of_lt hlx));have pw6:Below w.heap.size w (w5.setCell ⟨b3,3,none⟩ (.slice a5 s5 c5)):=pw5.setCell (Nat.le_of_lt hlx) _;have hJ5:(fun w'=>(convert 105 9 u2).run Tryz.prog w'=.ok (.string sb) w') w5:=HCV.out _ _ _ qu5;refine kA 14 39 hJ5 ?_;refine rdy 15 (fun K hK=>?_);go_simp;refine hK.out _ _ (HCV.out _ _ _ qu6) (fun hQ=>?_);clear hK K;try simp only[Act.put,sA,sZ,sS]
      refine dne ?_;generalize w5.setCell ⟨b3,3,none⟩ (.slice a5 s5 c5)=W6 at px6 po6 pb6 pz6 pw6 ⊢;clear px5 pz5 pb5 qu5 pw5 qu6 ho5 no6 nb6 nu6 x0 x1 x2 x3 y0 y1 y2 y3;go_wp2;go_roundw
      case rel=>exact⟨k+8,s5,a5,c5,ss++[sb],by go_num,by omega,by omega,HS5,hs58,HB2,px6,po6,pb6,pz6,pw6⟩
      case measure=>simp[intOf];omega
  ·skip
   have HE:Hid (ss=blksL es):=by
    have:=HB.out;rw[show (nn+7-k) / 8=0 by omega,blkF,List.append_nil] at this;exact this
   have hlt2:¬ (k:Int)<(nn:Int):=by omega
   obtain⟨x0,x1,x2,x3,_⟩:=hx.facts;obtain⟨z0,z1,z2,z3,f0,f1,f2,f3⟩:=hz.facts;have ns:∀ j,(Value.slice ak sn ck).ownBlock=some j→w.heap.size≠j:=zJ hz hos (by decide);have nb:∀ j,(Value.slice ab bn cb).ownBlock=some j→w.heap.size≠j:=zJ hz hob (by decide);clear HB;go_wp2;refine bodyPost_ret (v:=.agg #[.string e0.key,.string el.key,.slice ab bn cb,.slice ak sn ck]) (by simp[results,Tryz.results93,go_sem,z0,z1,z2,z3]) rfl ?_;rw[HBT.out];refine⟨_,_,rfl,zg (zg (zg (zg hob nb) nb) nb) nb,?_,zba hb (Nat.le_refl _) _ _ _ _ _ _ _ _⟩;rw[← HE.out];exact zg (zg (zg (zg hos ns) ns) ns) ns
open Go.RowKit
def zdD(w:World)(T:Tbl)(ok:Bool)(e:Ending)(w':World):Prop :=
 ∃ vb vk,e=.returned (.tuple #[.agg #[.string T.first,.string T.last,vb,vk],.bool ok])∧OwnI w' w.heap.size vb T.bits∧OwnS w' w.heap.size vk T.blocks∧Below w.heap.size w w'
theorem zpl(w:World)(B:Nat):OwnI w B (.slice none 0 0) []:=⟨rfl,.inl ⟨rfl,rfl⟩⟩
theorem zqJ(w:World)(B:Nat):OwnS w B (.slice none 0 0) []:=⟨rfl,.inl ⟨rfl,rfl⟩⟩
theorem zfY{w W:World}{es:List Ent}(h:zN es=false)(hb:Below w.heap.size w W):zdD w (zcE es) (zN es) (.returned (.tuple #[.agg #[.string ⟨#[]⟩,.string ⟨#[]⟩,.slice none 0 0,.slice none 0 0],.bool false])) W:=by
 unfold zcE;rw[h,if_neg (by simp)];exact⟨_,_,rfl,zpl _ _,zqJ _ _,hb⟩
theorem zjq{w W:World}{es:List Ent}{vb vk:Value}(h:zN es=true)(hi:OwnI W w.heap.size vb (zq es).bits)(hk:OwnS W w.heap.size vk (zq es).blocks)(hb:Below w.heap.size w W):zdD w (zcE es) (zN es) (.returned (.tuple #[.agg #[.string (zq es).first,.string (zq es).last,vb,vk],.bool true])) W:=by
 unfold zcE;rw[h,if_pos rfl];exact⟨_,_,rfl,hi,hk,hb⟩
open Go.RowKit
def digs(k:Nat)(acc:List UInt8):List UInt8:=if h:k=0 then acc else digs (k / 10) (UInt8.ofNat (48+k % 10)::acc)
theorem zoK(acc:List UInt8):digs 0 acc=acc:=by rw[digs,dif_pos rfl]
theorem zpa(k:Nat)(h:0<k)(acc:List UInt8):digs k acc=digs (k / 10) (UInt8.ofNat (48+k % 10)::acc):=by rw[digs,dif_neg (by omega)]
def mk(k:Nat):ByteArray:=⟨((109:UInt8)::digs k []).toArray⟩
theorem zf6(k:Nat)(w:World)(h0:0<k)(h1:k≤4194304) :
 Calls Tryz.prog 53 #[.int .i64 (k:Int)] w fun e w'=>e=.returned (.string (mk k))∧Below w.heap.size w w':=by
 go_enter Tryz.func53,Tryz.ntmps53
 go_wp2;go_loopw [0,3] (fun n v wr=>∃ (m:Nat) (ys:List UInt8),n=.int .i64 m∧m≤4194304∧v=.string ⟨ys.toArray⟩∧ys.length+m≤4194304∧Hid (digs m ys=digs k [])∧Below w.heap.size w wr) (fun n _ _=>(intOf n).toNat)
 case atStart=>exact⟨k,[],rfl,h1,rfl,by simp;omega,rfl,Below.refl _ _⟩
 case round =>
  obtain⟨m,ys,rfl,hm,rfl,hy,he,hb⟩:=hrel;have hs:=hb.size;by_cases hlt:0<m
  ·have hcv:=ziZ wr (UInt8.ofNat (48+m % 10)) (48+(m:Int) % 10) (zgA m);generalize hd:UInt8.ofNat (48+m % 10)=d at hcv;have hadd:∀ w',(Op.stringOp .add ⟨#[d]⟩ ⟨ys.toArray⟩).run Tryz.prog w'=.ok (.string ⟨(d::ys).toArray⟩) w':=fun w'=>run_string_add_lists w' [d] ys (by simp) (by omega)
   have HE:Hid (digs (m / 10) (d::ys)=digs k []):=by show _=_;rw[← hd,← zpa m hlt];exact he.out
   have R2:Below w.heap.size w (wr.alloc (.cells #[.int .u8 (48+(m:Int) % 10)] 5)):=hb.alloc hs _;clear hd he hb;go_wp2;go_roundw
   case rel=>exact⟨m / 10,d::ys,by go_num,by omega,by simp,by simp only[List.length_cons];omega,HE,R2⟩
   case measure=>simp[intOf];omega
  ·have hm0:m=0:=by omega
   subst hm0;have HE:Hid (ys=digs k []):=by show _=_;rw[← he.out,zoK]
   have hadd:∀ w',(Op.stringOp .add ⟨#[109]⟩ ⟨ys.toArray⟩).run Tryz.prog w'=.ok (.string ⟨((109:UInt8)::ys).toArray⟩) w':=fun w'=>run_string_add_lists w' [109] ys (by simp) (by omega)
   clear he;go_wp2;go_ret;refine⟨?_,hb⟩;unfold mk;rw[← HE.out];simp
theorem zaA(x:Int)(k:Nat)(w:World)(hx:x=(k:Int))(h0:0<k)(h1:k≤4194304) :
 Calls Tryz.prog 53 #[.int .i64 x] w fun e w'=>e=.returned (.string (mk k))∧Below w.heap.size w w':=by
 subst hx;exact zf6 k w h0 h1
end Go.Proofs.YtannfbpohhnnkaaGreatDoor
