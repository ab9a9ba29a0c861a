import Derived.Test.YtjlnchhgkfnldaaGreatMrgSpec3
namespace Go.Proofs.YtjlnchhgkfnldaaGreat
set_option maxHeartbeats 16000000
set_option maxRecDepth 100000
open Go.RowKit
theorem zjL{es:List Ent}{q:Int}{i:Nat}(h:i=0)(hq:(nth es i).seq≤q):zah es q i=true:=by simp[zah,h] at *;exact hq
theorem zll{es:List Ent}{q:Int}{i:Nat}(h:kEq (nth es (i-1)).key (nth es i).key=false)(hq:(nth es i).seq≤q):zah es q i=true:=by simp[zah,h,hq]
theorem zkL{es:List Ent}{q:Int}{i:Nat}(h0:i≠0)(h:kEq (nth es (i-1)).key (nth es i).key=true)(hq:(nth es i).seq≤q):zah es q i=decide (q<(nth es (i-1)).seq):=by simp[zah,h,hq,h0]
theorem zm1(v:Value)(es:List Ent)(i:Nat)(q:Int)(w:World)(hr:RdE w v es)(hi:i<es.length) :
 Calls Tryz.prog 88 #[v,.int .i64 i,.int .i64 q] w fun e w'=>e=.returned (.bool (zah es q i))∧∃ n,w'=w.drewN n:=by
 obtain⟨a,cap,hv,hl,hm,_⟩:=id hr;unfold maxLen at hm;subst hv;obtain⟨b,off,rfl,hc⟩:=hr.at rfl i hi;obtain⟨x,hx⟩:∃ x,x=nth es i:=⟨_,rfl⟩;rw[← hx] at hc;have HX:Hid (x=nth es i):=hx;clear hx;obtain⟨c0,c1,c2,c3⟩:=id hc;by_cases hq:q<x.seq
 ·have RES:Hid (zah es q i=false):=by
   unfold Hid zah;rw[← HX.out,decide_eq_false (by omega),Bool.false_and]
  go_enter Tryz.func88,Tryz.ntmps88
  go_wp2;go_ret;exact⟨zN RES.out.symm,0,rfl⟩
 ·have hq2:x.seq≤q:=by omega
  by_cases hi0:i=0
  ·skip
   have RES:Hid (zah es q i=true):=zjL hi0 (by rw[← HX.out];exact hq2);have hi1:((i:Int)==0)=true:=(by simpa using hi0);clear hi0;go_enter Tryz.func88,Tryz.ntmps88
   go_wp2_with fail
   refine brg (S:=fun w'=>EntAt w' b (off+i*4) x) hc (fun hH=>?_);refine kA 0 14 hH ?_;refine kA 1 15 hH ?_;refine kA 2 16 hH ?_;refine kS 3 17 hH ?_;refine kS 4 18 hH ?_;refine kS 5 19 hH ?_;refine kS 6 20 hH ?_;refine kS 7 21 hH ?_;refine kS 8 22 hH ?_;refine kS 9 23 hH ?_;refine kS 10 24 hH ?_;refine kS 11 25 hH ?_;refine kS 12 26 hH ?_;refine kS 13 27 hH ?_;refine kS 14 28 hH ?_;refine kA 15 29 hH ?_;refine kA 16 30 hH ?_;refine kS 17 31 hH ?_;refine kS 18 32 hH ?_;refine kS 19 33 hH ?_;refine kS 20 34 hH ?_;refine kS 21 35 hH ?_;refine kS 22 36 hH ?_;refine kS 23 37 hH ?_;refine kS 24 38 hH ?_;refine kA 25 39 hH ?_;refine kA 26 6 hH ?_;refine dne ?_;go_wp2;go_ret;exact⟨zN RES.out.symm,1,rfl⟩
  ·obtain⟨b2,off2,ha2,hd⟩:=hr.at rfl (i-1) (by omega);simp only[Option.some.injEq,Addr.mk.injEq] at ha2;obtain⟨rfl,rfl,_⟩:=ha2;obtain⟨y,hy⟩:∃ y,y=nth es (i-1):=⟨_,rfl⟩;rw[← hy] at hd;have HY:Hid (y=nth es (i-1)):=hy;clear hy;obtain⟨j,hj⟩:∃ j,j=i-1:=⟨i-1,rfl⟩;rw[← hj] at hd;have hkj:(i:Int)-1=(j:Int):=(by omega);have hj0:(0:Int)≤(j:Int):=(by omega);have hjn:j<es.length:=(by omega);have hwr:IntKind.i64.wrap (j:Int)=(j:Int):=(by rw[IntKind.wrap_i64];omega);have hi1:((i:Int)==0)=false:=(by simpa using hi0);have HI0:Hid (i≠0):=hi0;have KB:=zbE y.key x.key;clear hj hi0;cases hke:kEq y.key x.key with
   | false =>
    rw[hke] at KB;have RES:Hid (zah es q i=true):=zll (by rw[← HX.out,← HY.out];exact hke) (by rw[← HX.out];exact hq2);go_enter Tryz.func88,Tryz.ntmps88
    go_wp2_with fail
    refine brg (S:=fun w'=>EntAt w' b (off+i*4) x∧EntAt w' b (off+j*4) y) ⟨hc,hd⟩ (fun hH=>?_);refine kA 0 14 hH ?_;refine kA 1 15 hH ?_;refine kA 2 16 hH ?_;refine kA 3 17 hH ?_;refine kA 4 18 hH ?_;refine kA 5 19 hH ?_;refine kA 6 20 hH ?_;refine kA 7 21 hH ?_;refine kA 8 22 hH ?_;refine kA 9 23 hH ?_;refine kA 10 24 hH ?_;refine kA 11 25 hH ?_;refine kA 12 26 hH ?_;refine kA 13 27 hH ?_;refine kA 14 28 hH ?_;refine kA 15 29 hH ?_;refine kA 16 30 hH ?_;refine kS 17 31 hH ?_;refine kS 18 32 hH ?_;refine kS 19 33 hH ?_;refine kS 20 34 hH ?_;refine kS 21 35 hH ?_;refine kS 22 36 hH ?_;refine kS 23 37 hH ?_;refine kS 24 38 hH ?_;refine kA 25 39 hH ?_;refine kA 26 6 hH ?_;refine dne ?_;go_wp2;go_ret;exact⟨zN RES.out.symm,1,rfl⟩
   | true =>
    rw[hke] at KB;have RES:Hid (zah es q i=decide (q<y.seq)):=by
     have h:=zkL HI0.out (q:=q) (es:=es) (by rw[← HX.out,← HY.out];exact hke) (by rw[← HX.out];exact hq2);rw[← HY.out] at h;exact h
    go_enter Tryz.func88,Tryz.ntmps88
    go_wp2_with fail
    refine brg (S:=fun w'=>EntAt w' b (off+i*4) x∧EntAt w' b (off+j*4) y) ⟨hc,hd⟩ (fun hH=>?_);refine kA 0 14 hH ?_;refine kA 1 15 hH ?_;refine kA 2 16 hH ?_;refine kA 3 17 hH ?_;refine kA 4 18 hH ?_;refine kA 5 19 hH ?_;refine kA 6 20 hH ?_;refine kA 7 21 hH ?_;refine kA 8 22 hH ?_;refine kA 9 23 hH ?_;refine kA 10 24 hH ?_;refine kA 11 25 hH ?_;refine kA 12 26 hH ?_;refine kA 13 27 hH ?_;refine kA 14 28 hH ?_;refine kA 15 29 hH ?_;refine kA 16 30 hH ?_;refine kA 17 31 hH ?_;refine kA 18 32 hH ?_;refine kA 19 33 hH ?_;refine kA 20 34 hH ?_;refine kA 21 35 hH ?_;refine kA 22 36 hH ?_;refine kA 23 37 hH ?_;refine kA 24 38 hH ?_;refine kA 25 39 hH ?_;refine kA 26 6 hH ?_;refine dne ?_;go_wp2;go_ret;exact⟨zN RES.out.symm,1,rfl⟩
open Go.RowKit
theorem zlp(v:Value)(es:List Ent)(i j:Nat)(x y:Int)(w:World)(hx:x=(i:Int))(hy:y=(j:Int))(hr:RdE w v es)(hij:i≤j)(hj:j≤es.length) :
 Calls Tryz.prog 78 #[v,.int .i64 x,.int .i64 y] w fun e w'=>∃ u,e=.returned u∧(∀ W,RdE W v es→RdE W u ((es.take j).drop i))∧w'=w:=by
 subst hx;subst hy;exact znL v es i j w hr hij hj
theorem cut_one(es:List Ent)(k:Nat)(h:k<es.length):(es.take (k+1)).drop k=[nth es k]:=by
 rw[List.take_succ_eq_append_getElem h,List.drop_append,List.drop_eq_nil_of_le (by rw[List.length_take];omega),List.length_take,Nat.min_eq_left (by omega),Nat.sub_self,List.drop_zero,List.nil_append,zU h]
def OwnP(w:World)(base:Nat)(v:Value)(ps:List (Value×List Ent)):Prop:=w.ownsRow base 24 1 v ps.length (ps.map (·.1))
theorem OwnP.pieces{w:World}{base:Nat}{v:Value}{ps:List (Value×List Ent)}(h:OwnP w base v ps)(hp:∀ p∈ps,RdE w p.1 p.2):Pieces w v ps:=by
 have h':=h;rcases h.2 with ⟨rfl,h0⟩ | ⟨g,cap,cur,rfl,hb,hg,hn,hc,hs,ht⟩
 ·exact .inl ⟨rfl,List.length_eq_zero_iff.1 h0⟩
 ·refine .inr ⟨g,0,cap,rfl,hn,hc,fun i hi=>⟨?_,hp _ (List.getElem_mem hi)⟩⟩;have:=World.ownsRow.cellAt h' i (by omega);rw[Nat.zero_add,this];simp[hi]
theorem OwnP.below{w w':World}{base:Nat}{v:Value}{ps:List (Value×List Ent)}(h:OwnP w base v ps)(hb:Below w.heap.size w w'):OwnP w' base v ps:=zaZ h hb
theorem OwnP.mono{w:World}{base base':Nat}{v:Value}{ps:List (Value×List Ent)}(h:OwnP w base v ps)(hb:base'≤base):OwnP w base' v ps:=by
 refine⟨h.1,?_⟩;rcases h.2 with h2 | ⟨g,cap,cur,hv,hg,r⟩
 ·exact .inl h2
 ·exact .inr ⟨g,cap,cur,hv,nT hb hg,r⟩
theorem zj3(w:World):OwnP (w.alloc (.cells #[] 24)) w.heap.size (.slice (some ⟨w.heap.size,0,none⟩) 0 0) []:=World.ownsRow_lit w #[] 0 (nR _) (Nat.zero_le _) rfl
theorem ziT{w1:World}{B:Nat}{v':Value}{ps:List (Value×List Ent)}{u:Value}{zs:List Ent}(h:w1.ownsRow B 24 1 v' (ps.length+1) (ps.map (·.1)++[u])):OwnP w1 B v' (ps++[(u,zs)]):=by
 unfold OwnP;rw[List.map_append,lA];exact h
theorem one_newP(w:World)(x:Value)(t:TypeId):∀ j u,[x][j]? = some u→(w.alloc (.cells #[x] t)).cell? ((⟨w.heap.size,0,none⟩:Addr).add j)=some u:=by
 intro j u hj;match j,hj with
 | 0,hj=>simp at hj;subst hj;simp[Addr.add]
theorem zhv(w:World)(x:Value)(t:TypeId)(n:Nat)(hn:n=w.heap.size):∀ j u,[x][j]? = some u→(w.alloc (.cells #[x] t)).cell? ((⟨n,0,none⟩:Addr).add j)=some u:=by
 subst hn;exact one_newP w x t
theorem zdG(v:Value)(es:List Ent)(i:Nat)(q:Int)(s:Bool)(w:World)(hr:RdE w v es)(hi:i<es.length)(hs:zah es q i=s) :
 Calls Tryz.prog 88 #[v,.int .i64 i,.int .i64 q] w fun e w'=>e=.returned (.bool s)∧∃ n,w'=w.drewN n:=by
 subst hs;exact zm1 v es i q w hr hi
theorem zhh(ps:List (Value×List Ent))(u:Value)(zs:List Ent):joinE (ps++[(u,zs)])=joinE ps++zs:=by simp[joinE]
theorem zit(v:Value)(es:List Ent)(q:Int)(w:World)(hr:RdE w v es)(hf:∀ e∈es,Fits e) :
 Calls Tryz.prog 46 #[v,.int .i64 q] w fun e w'=>zbq w (zaJ es q) e w':=by
 obtain⟨a,cap,hv,hl,hm,_⟩:=id hr;unfold maxLen at hm;subst hv;cases hok:okL es with
 | false =>
  have RES:Hid (zaJ es q=[]):=by unfold Hid zaJ;simp[hok]
  go_enter Tryz.func46,Tryz.ntmps46
  go_wp2_with fail
  refine(zdo _ es _ hr hf hok).mono ?_;rintro e w1 ⟨rfl,hb1⟩;go_wp2;go_ret;refine⟨_,rfl,?_,hb1.alloc hb1.size _⟩;rw[RES.out];exact(zX w1).mono hb1.size
 | true =>
  have hlen:=zad hok;have RES:Hid (zaJ es q=shTo es q es.length):=by unfold Hid zaJ;simp[hok]
  obtain⟨i0,hi,hz0,hz1,hz2⟩:=info_parts Tryz.info24;go_enter Tryz.func46,Tryz.ntmps46
  go_wp2_with fail
  refine(zcj _ es _ hr hf hok).mono ?_;rintro e w1 ⟨rfl,hb1⟩;have hp1:=(zj3 w1);have b1:=hb1.alloc hb1.size (.cells #[] 24);have hs1:=hb1.size;clear hb1;go_wp2;go_loopw [5,15] (fun o i wr=>∃ (k:Nat) (ps:List (Value×List Ent)),k≤es.length∧i=.int .i64 k∧ps.length≤k∧OwnP wr w.heap.size o ps∧Hid (∀ p∈ps,RdE w p.1 p.2)∧Hid (joinE ps=shTo es q k)∧Below w.heap.size w wr) (fun _ i _=>es.length-(intOf i).toNat)
  case atStart=>exact⟨0,[],Nat.zero_le _,rfl,nR _,hp1.mono hs1,(fun p hp=>by cases hp),rfl,b1⟩
  case round =>
   obtain⟨k,ps,hk,rfl,hpk,ho,HP,HJ,hb⟩:=hrel;clear hp1 b1;have hrw:=hr.below hb;by_cases hlt:k<es.length
   ·obtain⟨b,off,rfl,hc⟩:=hrw.at rfl k hlt;obtain⟨x,hx⟩:∃ x,x=nth es k:=⟨_,rfl⟩;rw[← hx] at hc;have HX:Hid (x=nth es k):=hx;clear hx;obtain⟨c0,c1,c2,c3⟩:=hc;have hra:=hrw.below (ze wr (.cells #[.string x.key,.string x.val,.int .i64 x.seq,.bool x.gone] 40));have hoa:=ho.below (ze wr (.cells #[.string x.key,.string x.val,.int .i64 x.seq,.bool x.gone] 40));have bza:=hb.alloc hb.size (.cells #[.string x.key,.string x.val,.int .i64 x.seq,.bool x.gone] 40);cases hsh:zah es q k with
    | false =>
     have HJ2:Hid (joinE ps=shTo es q (k+1)):=(by unfold Hid;rw[zfb (by unfold shAt;rw[hsh];rfl)];exact HJ.out);go_wp2_with fail
     refine(zdG _ es k q false _ hra hlt hsh).mono ?_;rintro e w2 ⟨rfl,n2,rfl⟩;go_wp2;go_roundw
     case rel=>exact⟨k+1,ps,by omega,by go_num,by omega,hoa,HP,HJ2,zhu bza n2⟩
     case measure=>simp[intOf];omega
    | true =>
     cases hgn:x.gone with
     | true =>
      have HJ2:Hid (joinE ps=shTo es q (k+1)):=(by unfold Hid;rw[zfb (by unfold shAt;rw[← HX.out,hgn];simp)];exact HJ.out);rw[hgn] at c3 hra hoa bza;go_wp2_with fail
      refine(zdG _ es k q true _ hra hlt hsh).mono ?_;rintro e w2 ⟨rfl,n2,rfl⟩;go_wp2;go_roundw
      case rel=>exact⟨k+1,ps,by omega,by go_num,by omega,hoa,HP,HJ2,zhu bza n2⟩
      case measure=>simp[intOf];omega
     | false =>
      have hsa:shAt es q k=true:=(by unfold shAt;rw[hsh,← HX.out,hgn];rfl);have HS:Hid (shTo es q (k+1)=joinE ps++[x]):=(by unfold Hid;rw[zii hsa,HJ.out,← HX.out]);clear hsa;rw[hgn] at c3 hra hoa bza;go_wp2_with fail
      refine(zdG _ es k q true _ hra hlt hsh).mono ?_;rintro e w2 ⟨rfl,n2,rfl⟩;go_wp2_with fail
      refine(zlp _ es k (k+1) _ _ _ rfl (by omega) (hra.drewN n2) (by omega) (by omega)).mono ?_;rintro e w3 ⟨u,rfl,hu,rfl⟩;have hu1:=hu w hr;rw[cut_one es k hlt,← HX.out] at hu1;have HP2:Hid (∀ p∈ps++[(u,[x])],RdE w p.1 p.2):=by
       intro p hp;rcases List.mem_append.1 hp with h | h
       ·exact HP.out p h
       ·simp at h;subst h;exact hu1
      obtain⟨aa,cc,hua,_⟩:=id hu1;have hua2:u=.slice aa 1 cc:=hua;subst hua2;have hs:=bza.size;simp at hs;clear hu hu1 hua;go_wp2_with (at_builtin;(refine wpList_append_own _ rfl _ _ 60 rfl w.heap.size 24 i0 (.slice none 0 0) 1 24 Tryz.underlying60 hi hz0 hz1 hz2 rfl (by decide) _ _ _ rfl (World.ownsRow.alloc hoa _) ⟨wr.heap.size+1,0,none⟩ 1 1 [.slice aa 1 cc] rfl rfl ?c1 ?c2 ?c3 ?c4 ?c5 ?_))
      case c1=>exact zhv _ _ _ _ (by simp)
      case c2=>intro z hz;simp at hz;subst hz;rfl
      case c3=>unfold maxLen;omega
      case c4=>omega
      case c5=>simp;omega
      intro v2 w2 ho2 hg2 _;have R1:OwnP w2 w.heap.size v2 (ps++[(.slice aa 1 cc,[x])]):=ziT ho2;have bz2:Below w.heap.size w w2:=((zhu bza n2).alloc (by simp;omega) _).grown hg2 (by simp;omega) (fun k hk=>(oL ho k hk).1);have HJ2:Hid (joinE (ps++[(.slice aa 1 cc,[x])])=shTo es q (k+1)):=(by unfold Hid;rw[zhh,HS.out]);have hpl:(ps++[(Value.slice aa 1 cc,[x])]).length≤k+1:=(by rw[lA];simp;omega);clear ho ho2 hg2 hb hoa bza hra HS HJ HP;go_wp2;go_roundw
      case rel=>exact⟨k+1,_,by omega,by go_num,hpl,R1,HP2,HJ2,bz2⟩
      case measure=>simp[intOf];omega
   ·skip
    have hke:k=es.length:=(by omega);have HJ2:Hid (joinE ps=shTo es q es.length):=(by rw[← hke];exact HJ);clear hke;have hsl:=ze6 es q es.length;have hjl:(joinE ps).length≤1000000:=(by rw[HJ2.out];omega);go_wp2_with fail
    refine(zfg _ ps _ (ho.pieces (fun p hp=>(HP.out p hp).below hb)) hjl (by omega)).mono ?_;rintro e w3 ⟨u,rfl,ho3,hb3⟩;go_wp2;go_ret;refine⟨_,rfl,?_,hb.trans (hb3.mono hb.size)⟩;rw[RES.out,← HJ2.out];exact ho3.mono hb.size
def nxt(out:List Ent)(x:Ent):List Ent:=if out.length=0∨zP (nth out (out.length-1)) x=false then out++[x] else out
def rest(hs1:List Src)(v:Value)(r:List Ent)(no:Nat):List Src:=if r.length=0 then hs1 else hs1++[⟨v,r,no⟩]
theorem zlw{hs1:List Src}{v:Value}{r:List Ent}{no:Nat}{s:Src}(h:s∈rest hs1 v r no):s∈hs1∨(s=⟨v,r,no⟩∧r≠[]):=by
 unfold rest at h;split at h
 ·exact .inl h
 ·rename_i hr;rcases List.mem_append.1 h with h | h
  ·exact .inl h
  ·exact .inr ⟨List.mem_singleton.1 h,fun e=>hr (by rw[e];rfl)⟩
theorem zmd{hs1:List Src}{v:Value}{r:List Ent}{no:Nat}{s:Src}(h:s∈hs1):s∈rest hs1 v r no:=by
 unfold rest;split
 ·exact h
 ·exact List.mem_append_left _ h
theorem zlz{hs1:List Src}{v:Value}{r:List Ent}{no:Nat}(h:r≠[]):(⟨v,r,no⟩:Src)∈rest hs1 v r no:=by
 unfold rest;split
 ·rename_i e;exact absurd (List.eq_nil_of_length_eq_zero e) h
 ·simp
theorem zlo{out:List Ent}(h:0<out.length):nth out (out.length-1)∈out:=by rw[zU (by omega)];exact List.getElem_mem _
theorem sr_last{out:List Ent}(h:Sr out){o:Ent}(ho:o∈out):o=nth out (out.length-1)∨ahd o (nth out (out.length-1))=true:=by
 obtain⟨i,hi,rfl⟩:=List.getElem_of_mem ho;by_cases he:i=out.length-1
 ·left;subst he;rw[zU (by omega)]
 ·right
  rw[zU (show out.length-1<out.length by omega)];exact List.pairwise_iff_getElem.1 h i (out.length-1) hi (by omega) (by omega)
theorem zpn{ls:List (List Ent)}{hs hs1 hs2:List Src}{P:List (Ent×Nat)}{out:List Ent}{s0:Src}{v:Value}{x:Ent}{r:List Ent}(h:Told ls hs P out)(hp:hs.Perm (s0::hs1))(hx:s0.es=x::r)
 (hmin:∀ s∈hs,lessS s s0=false) (hp2:hs2.Perm (rest hs1 v r s0.no)):Told ls hs2 ((x,s0.no)::P) (nxt out x):=by
 have h0:s0∈hs:=hp.mem_iff.2 List.mem_cons_self;have h1:∀ s,s∈hs1→s∈hs:=fun s hs=>hp.mem_iff.2 (List.mem_cons_of_mem _ hs)
 have hm2:∀ s,s∈hs2→s∈hs1∨(s=⟨v,r,s0.no⟩∧r≠[]):=fun s hs=>zlw (hp2.mem_iff.1 hs)
 have hn:(s0.no::hs1.map Src.no).Nodup:=(hp.map Src.no).nodup_iff.1 h.apart;have hn':=List.nodup_cons.1 hn;obtain⟨_,hsr0,l0,hl0,hml0⟩:=h.left s0 h0;rw[hx] at hsr0 hml0;have hsr:=List.pairwise_cons.1 hsr0;have hxh:s0.hd=x:=by unfold Src.hd;rw[hx,zb4]
 have hP:∀ p∈P,ltT p.1 p.2 x s0.no=true:=fun p hp=>h.ahead p hp s0 h0 x (by rw[hx];exact List.mem_cons_self)
 have hO:∀ o∈out,ahd o x=true∨zP o x=true:=fun o ho=>by
  obtain⟨j,hj,_⟩:=h.first o ho;have:=(zcI _ _ _ _).1 (hP _ hj);rcases this with e | e
  ·exact .inl e
  ·exact .inr e.1
 have base:∀ out',Sr out'→(∀ o∈out',∃ j,(o,j)∈(x,s0.no)::P∧∀ p∈(x,s0.no)::P,zP p.1 o=true→j≤p.2)→(∀ p∈(x,s0.no)::P,∃ o∈out',zP o p.1=true)→Told ls hs2 ((x,s0.no)::P) out':=by
  intro out' g1 g2 g3;refine⟨fun s hs=>?_,?_,fun p hp'=>?_,fun i l e hl he=>?_,fun p hp' s hs e he=>?_,g1,g2,g3⟩
  ·rcases hm2 s hs with hs | ⟨rfl,hr⟩
   ·exact h.left s (h1 s hs)
   ·exact⟨hr,hsr.2,l0,hl0,fun e he=>hml0 e (List.mem_cons_of_mem _ he)⟩
  ·rw[(hp2.map Src.no).nodup_iff];unfold rest;split
   ·exact hn'.2
   ·rw[List.map_append,List.nodup_append];refine⟨hn'.2,by simp,fun a ha b hb=>?_⟩;simp at hb;subst hb;intro e;subst e;exact hn'.1 ha
  ·rcases List.mem_cons.1 hp' with rfl | hp'
   ·exact⟨l0,hl0,hml0 x List.mem_cons_self⟩
   ·exact h.part p hp'
  ·rcases h.all i l e hl he with hp' | ⟨s,hs,hno,hes⟩
   ·exact .inl (List.mem_cons_of_mem _ hp')
   ·rcases List.mem_cons.1 (hp.mem_iff.1 hs) with rfl | hs
    ·rw[hx] at hes;rcases List.mem_cons.1 hes with rfl | her
     ·rw[← hno];exact .inl List.mem_cons_self
     ·have hr:r≠[]:=fun e=>by rw[e] at her;cases her
      exact .inr ⟨_,hp2.mem_iff.2 (zlz hr),hno,her⟩
    ·exact .inr ⟨s,hp2.mem_iff.2 (zmd hs),hno,hes⟩
  ·rcases List.mem_cons.1 hp' with rfl | hp'
   ·rcases hm2 s hs with hs | ⟨rfl,hr⟩
    ·have hne:s.no≠s0.no:=fun e=>hn'.1 (by rw[← e];exact List.mem_map_of_mem hs)
     have hlt:ltT x s0.no s.hd s.no=true:=by
      rcases zpq x s0.no s.hd s.no with k | k | k
      ·exact k
      ·have:=hmin s (h1 s hs);unfold lessS at this;rw[hxh,k] at this;cases this
      ·exact absurd k.2.symm hne
     obtain⟨hne',hss,_⟩:=h.left s (h1 s hs);cases hse:s.es with
     | nil=>exact absurd hse hne'
     | cons y t =>
      have hyh:s.hd=y:=(by unfold Src.hd;rw[hse,zb4]);rw[hse] at he hss;rw[hyh] at hlt;rcases List.mem_cons.1 he with rfl | he
      ·exact hlt
      ·have:=(List.pairwise_cons.1 hss).1 e he;exact zgt hlt ((zcI _ _ _ _).2 (.inl this))
    ·exact(zcI _ _ _ _).2 (.inl (hsr.1 e he))
   ·rcases hm2 s hs with hs | ⟨rfl,hr⟩
    ·exact h.ahead p hp' s (h1 s hs) e he
    ·exact h.ahead p hp' s0 h0 e (by rw[hx];exact List.mem_cons_of_mem _ he)
 unfold nxt;split
 ·rename_i hc;have hno:∀ o∈out,zP o x=false:=fun o ho=>by
   cases hk:zP o x with
   | false=>rfl
   | true =>
    exfalso;have hlen:0<out.length:=List.length_pos_of_mem ho;rcases hc with hc | hc
    ·omega
    ·rcases sr_last h.sorted ho with e | e
     ·rw[← e,hk] at hc;cases hc
     ·rcases hO _ (zlo hlen) with k | k
      ·exact zbM (zaR e k) hk
      ·rw[k] at hc;cases hc
  refine base _ ?_ (fun o ho=>?_) (fun p hp'=>?_)
  ·unfold Sr;rw[List.pairwise_append];refine⟨h.sorted,by simp,fun a ha b hb=>?_⟩;rw[List.mem_singleton.1 hb];rcases hO a ha with k | k
   ·exact k
   ·rw[hno a ha] at k;cases k
  ·rcases List.mem_append.1 ho with ho | ho
   ·obtain⟨j,hj,hf⟩:=h.first o ho;refine⟨j,List.mem_cons_of_mem _ hj,fun p hp' hk=>?_⟩;rcases List.mem_cons.1 hp' with rfl | hp'
    ·have:=hno o ho;rw[zaH hk] at this;cases this
    ·exact hf p hp' hk
   ·rw[List.mem_singleton.1 ho];refine⟨s0.no,List.mem_cons_self,fun p hp' hk=>?_⟩;rcases List.mem_cons.1 hp' with rfl | hp'
    ·exact nR _
    ·obtain⟨o',ho',hk'⟩:=h.has p hp';have:=hno o' ho';rw[zcA hk' hk] at this;cases this
  ·rcases List.mem_cons.1 hp' with rfl | hp'
   ·exact⟨x,by simp,zes x⟩
   ·obtain⟨o',ho',hk'⟩:=h.has p hp';exact⟨o',List.mem_append_left _ ho',hk'⟩
 ·rename_i hc;have hlen:0<out.length:=Nat.pos_of_ne_zero (fun e=>hc (.inl e));have hk:zP (nth out (out.length-1)) x=true:=by
   cases e:zP (nth out (out.length-1)) x with
   | true=>rfl
   | false=>exact absurd (.inr e) hc
  refine base _ h.sorted (fun o ho=>?_) (fun p hp'=>?_)
  ·obtain⟨j,hj,hf⟩:=h.first o ho;refine⟨j,List.mem_cons_of_mem _ hj,fun p hp' hk2=>?_⟩;rcases List.mem_cons.1 hp' with rfl | hp'
   ·have:=(zcI _ _ _ _).1 (hP _ hj);rcases this with e | e
    ·exact(zbM e (zaH hk2)).elim
    ·simp only at e ⊢;omega
   ·exact hf p hp' hk2
  ·rcases List.mem_cons.1 hp' with rfl | hp'
   ·exact⟨_,zlo hlen,hk⟩
   ·exact h.has p hp'
structure Start (ls:List (List Ent)) (k:Nat) (hs:List Src):Prop where
 left:∀ s∈hs,s.no<k∧ls[s.no]? = some s.es∧s.es≠[]
 apart:(hs.map Src.no).Nodup
 all:∀ (i:Nat) (l:List Ent),i<k→ls[i]? = some l→l≠[]→∃ s∈hs,s.no=i
theorem zoS(ls:List (List Ent)):Start ls 0 []:=⟨(fun s hs=>by cases hs),List.nodup_nil,(fun i l hi=>by omega)⟩
theorem zm8{ls:List (List Ent)}{k:Nat}{hs hs2:List Src}{v:Value}{l:List Ent}(h:Start ls k hs)(hl:ls[k]? = some l)(hp:hs2.Perm (rest hs v l k)):Start ls (k+1) hs2:=by
 have hm:∀ s,s∈hs2→s∈hs∨(s=⟨v,l,k⟩∧l≠[]):=fun s hs=>zlw (hp.mem_iff.1 hs)
 refine⟨fun s hs=>?_,?_,fun i m hi hm' hne=>?_⟩
 ·rcases hm s hs with hs | ⟨rfl,hr⟩
  ·have:=h.left s hs;exact⟨by omega,this.2⟩
  ·exact⟨by simp,hl,hr⟩
 ·rw[(hp.map Src.no).nodup_iff];unfold rest;split
  ·exact h.apart
  ·rw[List.map_append,List.nodup_append];refine⟨h.apart,by simp,fun a ha b hb=>?_⟩;simp at hb;subst hb;obtain⟨s,hs,rfl⟩:=List.mem_map.1 ha;have:=(h.left s hs).1;omega
 ·by_cases hik:i=k
  ·subst hik;rw[hl] at hm';obtain rfl:=Option.some.inj hm';exact⟨_,hp.mem_iff.2 (zlz hne),rfl⟩
  ·obtain⟨s,hs,hno⟩:=h.all i m (by omega) hm' hne;exact⟨s,hp.mem_iff.2 (zmd hs),hno⟩
theorem zmG{ls:List (List Ent)}{hs:List Src}(hsr:∀ l∈ls,Sr l)(h:Start ls ls.length hs):Told ls hs [] []:=by
 refine⟨fun s hs=>?_,h.apart,(fun p hp=>by cases hp),fun i l e hl he=>?_,(fun p hp=>by cases hp),List.Pairwise.nil,(fun o ho=>by cases ho),(fun p hp=>by cases hp)⟩
 ·obtain⟨_,h1,h2⟩:=h.left s hs;exact⟨h2,hsr _ (List.mem_of_getElem? h1),s.es,h1,fun e he=>he⟩
 ·right
  have hil:i<ls.length:=(List.getElem?_eq_some_iff.1 hl).1;obtain⟨s,hs,hno⟩:=h.all i l hil hl (fun e'=>by rw[e'] at he;cases he);obtain⟨_,h1,_⟩:=h.left s hs;rw[hno,hl] at h1;obtain rfl:=Option.some.inj h1;exact⟨s,hs,hno,he⟩
open Go.RowKit
theorem zkB(P:Program)(w:World)(t:TypeId)(a:Addr)(n:String):(Builtin.ssaWrapNilChk_ #[t] t #[.pointer (some a),strVal "",strVal n]).run P w=.ok (.pointer (some a)) w:=rfl
theorem zcK{P:Program}{w:World}{t elem se:TypeId}{K b f:Nat}{v:Value}{name:String}(hm:((P.info? t).bind fun i=>i.methods.find? (·.name==name)).map (fun m=>(m.path,m.func))=some (#[],some (K,false)))
 (hu:P.underlying t=some (.pointer elem)) (he:P.underlying elem=some (.slice se)) (h:w.cell? ⟨b,0,none⟩=some v):(method (f+1) t (.pointer (some ⟨b,0,none⟩)) name).run P w=.ok (K,v) w:=by
 obtain⟨i,hi⟩:∃ i,P.info? t=some i:=by
  cases h:P.info? t with
  | none=>rw[h] at hm;simp at hm
  | some i=>exact⟨i,rfl⟩
 rw[hi] at hm;obtain⟨m,hm1⟩:∃ m,i.methods.find? (·.name==name)=some m:=by
  cases h:i.methods.find? (·.name==name) with
  | none=>simp only[Option.bind_some,h] at hm;simp at hm
  | some m=>exact⟨m,rfl⟩
 simp only[Option.bind_some,hm1,Option.map_some,Option.some.injEq,Prod.mk.injEq] at hm;have h2:=zkB P w t ⟨b,0,none⟩;simp[method,typeInfo,hi,hm1,hm.1,hm.2,follow,receiverAt,underlying,hu,he,Place.get,h2,asAddr,loadVar,isAgg,h,Result.andThen]
theorem m_Len(w:World)(b:Nat)(v:Value)(h:w.cell? ⟨b,0,none⟩=some v):(method 320 135 (.pointer (some ⟨b,0,none⟩)) "Len").run Tryz.prog w=.ok (109,v) w :=
 zcK (by kernel_rfl) Tryz.underlying135 Tryz.underlying137 h
theorem zlL(w:World)(b:Nat)(v:Value)(h:w.cell? ⟨b,0,none⟩=some v):(method 320 135 (.pointer (some ⟨b,0,none⟩)) "Less").run Tryz.prog w=.ok (181,v) w :=
 zcK (by kernel_rfl) Tryz.underlying135 Tryz.underlying137 h
theorem ziY(w:World)(b:Nat)(v:Value)(h:w.cell? ⟨b,0,none⟩=some v):(method 320 135 (.pointer (some ⟨b,0,none⟩)) "Swap").run Tryz.prog w=.ok (184,v) w :=
 zcK (by kernel_rfl) Tryz.underlying135 Tryz.underlying137 h
theorem m_Push(w:World)(b:Nat):(method 320 135 (.pointer (some ⟨b,0,none⟩)) "Push").run Tryz.prog w=.ok (183,.pointer (some ⟨b,0,none⟩)) w:=by kernel_rfl
theorem m_Pop(w:World)(b:Nat):(method 320 135 (.pointer (some ⟨b,0,none⟩)) "Pop").run Tryz.prog w=.ok (182,.pointer (some ⟨b,0,none⟩)) w:=by kernel_rfl
theorem Tryz.info163:(Tryz.prog.info? 163).map (fun i=>(i.zero,i.size,i.bytes))=some (some (.agg #[.slice none 0 0,.int .i64 0]),2,32):=by kernel_rfl
def HCs(s:Src):List Value:=[s.v,.int .i64 s.no]
def HV(hs:List Src):List Value:=hs.flatMap HCs
theorem zeD:∀ hs:List Src,(HV hs).length=hs.length*2
 | []=>rfl
 | a::r=>by
  have:=zeD r;unfold HV at this ⊢;rw[List.flatMap_cons,lA,this,List.length_cons];simp[HCs];omega
theorem zjs(a b:List Src):HV (a++b)=HV a++HV b:=by simp[HV]
theorem HV_one(s:Src):HV [s]=HCs s:=by simp[HV]
theorem zfj(a:Src)(r:List Src):HV (a::r)=HCs a++HV r:=by simp[HV]
theorem sN_zero(a:Src)(r:List Src):sN (a::r) 0=a:=rfl
theorem sN_succ(a:Src)(r:List Src)(i:Nat):sN (a::r) (i+1)=sN r i:=rfl
theorem HV_get:∀ (hs:List Src) (i:Nat),i<hs.length→∀ j,j<2→(HV hs)[i*2+j]? = (HCs (sN hs i))[j]?
 | [],i,h,_,_=>by simp at h
 | a::r,0,_,j,hj=>by
  rw[zfj,sN_zero,Nat.zero_mul,Nat.zero_add,List.getElem?_append_left (by simp[HCs];exact hj)]
 | a::r,i+1,h,j,hj=>by
  rw[zfj,sN_succ,← HV_get r i (by simpa using h) j hj,List.getElem?_append_right (by simp[HCs];omega)];congr 1
  simp[HCs];omega
theorem zoe:∀ (hs:List Src) (i:Nat) (s:Src),i<hs.length→HV (hs.set i s)=((HV hs).set (i*2) s.v).set (i*2+1) (.int .i64 s.no)
 | [],i,s,h=>by simp at h
 | a::r,0,s,_=>by
  rw[List.set_cons_zero,zfj,zfj];simp[HCs]
 | a::r,i+1,s,h=>by
  rw[List.set_cons_succ,zfj,zfj,zoe r i s (by simpa using h)];have e1:(i+1)*2=i*2+2:=by omega
  rw[e1];simp[HCs]
def SrcAt(w:World)(b o:Nat)(s:Src):Prop:=w.cell? ⟨b,o,none⟩=some s.v∧w.cell? ⟨b,o+1,none⟩=some (.int .i64 s.no)
theorem SrcAt.lt{w:World}{b o:Nat}{s:Src}(h:SrcAt w b o s):b<w.heap.size:=World.block_lt_of_cell? w _ h.1
theorem SrcAt.of_block{w w':World}{b o:Nat}{s:Src}(h:SrcAt w b o s)(hb:w'.heap[b]? = w.heap[b]?):SrcAt w' b o s :=
 ⟨(World.cell?_of_block (a:=⟨b,o,none⟩) hb).trans h.1,(World.cell?_of_block (a:=⟨b,o+1,none⟩) hb).trans h.2⟩
theorem SrcAt.below{w w':World}{b o:Nat}{s:Src}(h:SrcAt w b o s)(hb:Below w.heap.size w w'):SrcAt w' b o s:=h.of_block (hb.block b h.lt)
def OwnH(w:World)(base:Nat)(v:Value)(hs:List Src):Prop:=w.ownsRow base 163 2 v hs.length (HV hs)
theorem zgz{w:World}{base g cap n:Nat}{hs:List Src}(h:OwnH w base (.slice (some ⟨g,0,none⟩) n cap) hs)(i:Nat)(hi:i<hs.length):SrcAt w g (i*2) (sN hs i):=by
 have hn:n=hs.length:=by
  rcases h.2 with ⟨h0,_⟩ | ⟨g',cap',cur,hv,_⟩
  ·cases h0
  ·simp only[Value.slice.injEq] at hv;exact hv.2.1
 subst hn;have c:∀ j,j<2→w.cell? ⟨g,i*2+j,none⟩=(HCs (sN hs i))[j]?:=fun j hj=>(World.ownsRow.cellAt h (i*2+j) (by omega)).trans (HV_get hs i hi j hj)
 exact⟨c 0 (by omega),c 1 (by omega)⟩
theorem zdR{w:World}{base:Nat}{v:Value}{hs:List Src}(h:OwnH w base v hs)(h0:0<hs.length):∃ g cap,v=.slice (some ⟨g,0,none⟩) hs.length cap∧hs.length≤cap∧cap≤maxLen:=by
 rcases h.2 with ⟨_,h1⟩ | ⟨g,cap,cur,hv,_,_,h2,h3,_⟩
 ·omega
 ·exact⟨g,cap,hv,h2,h3⟩
theorem zfW{w:World}{base:Nat}{v:Value}{hs:List Src}(h:OwnH w base v hs):∃ a cap,v=.slice a hs.length cap∧hs.length≤cap∧cap≤maxLen:=by
 rcases h.2 with ⟨hv,h1⟩ | ⟨g,cap,cur,hv,_,_,h2,h3,_⟩
 ·exact⟨none,0,by rw[hv,h1],by omega,Nat.zero_le _⟩
 ·exact⟨_,cap,hv,h2,h3⟩
theorem OwnH.below{w w':World}{base:Nat}{v:Value}{hs:List Src}(h:OwnH w base v hs)(hb:Below w.heap.size w w'):OwnH w' base v hs:=zaZ h hb
structure Hp (w0 w:World) (sb:Nat) (v:Value) (hs:List Src):Prop where
 bel:Below w0.heap.size w0 w
 ge:w0.heap.size≤sb
 box:w.heap[sb]? = some (.cells #[v] 137 (0,0))
 own:OwnH w w0.heap.size v hs
 ne:∀ k,v.ownBlock=some k→k≠sb
 rd:∀ s∈hs,RdE w0 s.v s.es∧s.es≠[]
 few:hs.length≤20
theorem Hp.cell{w0 w:World}{sb:Nat}{v:Value}{hs:List Src}(h:Hp w0 w sb v hs):w.cell? ⟨sb,0,none⟩=some v:=by simp[World.cell?,h.box]
theorem Hp.lt{w0 w:World}{sb:Nat}{v:Value}{hs:List Src}(h:Hp w0 w sb v hs):sb<w.heap.size:=World.block_lt_of_cell? w _ h.cell
theorem Hp.below{w0 w w':World}{sb:Nat}{v:Value}{hs:List Src}(h:Hp w0 w sb v hs)(hb:Below w.heap.size w w'):Hp w0 w' sb v hs :=
 ⟨h.bel.trans (hb.mono h.bel.size),h.ge,(hb.block sb h.lt).trans h.box,h.own.below hb,h.ne,h.rd,h.few⟩
structure Hop (w:World) (v:Value) (sb:Nat) (w':World) (v':Value):Prop where
 size:w.heap.size≤w'.heap.size
 block:∀ k,k<w.heap.size→k≠sb→v.ownBlock≠some k→w'.heap[k]? = w.heap[k]?
 row:∀ k,v'.ownBlock=some k→v.ownBlock=some k∨w.heap.size≤k
theorem Hop.refl(w:World)(v:Value)(sb:Nat):Hop w v sb w v:=⟨nR _,fun _ _ _ _=>rfl,fun _ h=>.inl h⟩
theorem Hop.trans{w w1 w2:World}{v v1 v2:Value}{sb:Nat}(h:Hop w v sb w1 v1)(k:Hop w1 v1 sb w2 v2):Hop w v sb w2 v2 :=
 ⟨nT h.size k.size,fun i hi hs hv=>(k.block i (Nat.lt_of_lt_of_le hi h.size) hs (fun e=>by
  rcases h.row i e with e | e
  ·exact hv e
  ·omega)).trans (h.block i hi hs hv),
  fun i hi=>by
   rcases k.row i hi with e | e
   ·exact h.row i e
   ·exact .inr (nT h.size e)⟩
theorem Hop.below{w w':World}{v:Value}{sb:Nat}(h:Below w.heap.size w w'):Hop w v sb w' v:=⟨h.size,fun k hk _ _=>h.block k hk,fun _ h=>.inl h⟩
theorem ltT_ord(x y:Ent)(i j:Nat):(if ordE x y≠0 then ordE x y else cmpI i j)<0↔ltT x i y j=true:=by
 rw[zcI];by_cases h:ordE x y=0
 ·rw[if_neg (by simpa using h),(zdr x y).1 h];have h2:¬ ahd x y=true:=fun e=>by have:=(zfT x y).2 e;omega
  simp only[h2,true_and];unfold cmpI;split
  ·simp;omega
  ·split
   ·simp;omega
   ·simp;omega
 ·rw[if_pos h,zfT];have h2:¬ zP x y=true:=fun e=>h ((zdr x y).2 e)
  simp[h2]
end Go.Proofs.YtjlnchhgkfnldaaGreat
