import Derived.Test.YtannfbpohhnnkaaGreatDoorG34
import Derived.Maps.AppendAt
namespace Go.Proofs.YtannfbpohhnnkaaGreatDoor
set_option maxHeartbeats 16000000
set_option maxRecDepth 100000
open Go.RowKit
end Go.Proofs.YtannfbpohhnnkaaGreatDoor
namespace Go.Proofs.YtannfbpohhnnkaaGreatDoor
set_option maxHeartbeats 16000000
set_option maxRecDepth 100000
open Go.RowKit
theorem zcu{w:World}{B b t s n:Nat}{vm vy vo vs v:Value}{q:Int}{xs:List Value}(h:BoxTr w b vm vy vo q vs)(ho:w.ownsRow B t s v n xs)(ht:t≠34):∀ k,v.ownBlock=some k→b≠k:=by
 intro k hk e;subst e;rcases ho.2 with ⟨hv,_⟩ | ⟨g,cap,cur,hv,_,hg,_⟩
 ·rw[hv] at hk;cases hk
 ·rw[hv] at hk;obtain rfl:=Option.some.inj hk;rw[h] at hg;injection hg with e2
  injection e2 with _ e3
  exact ht e3.symm
theorem zpK{w:World}{b lo:Nat}{vm vy vo vs:Value}{q:Int}{Y:TrX}(h:BoxTr w b vm vy vo q vs)(hr:RowsTr w lo Y){k:Nat}(hk:k∈trB Y):b≠k:=by
 have inT:∀ ts:List TV,InT w lo ts→k∈tblks ts→b≠k:=fun ts hts hk=>by
  obtain⟨t,ht,e | e⟩:=zj3 hk
  ·exact zcu h (hts t ht).1 (by decide) k e
  ·exact zcu h (hts t ht).2 (by decide) k e
 unfold trB at hk;rcases List.mem_append.1 hk with hk | hk
 ·exact zcu h hr.mem (by decide) k (mem_oneB.1 hk)
 rcases List.mem_append.1 hk with hk | hk
 ·rcases List.mem_append.1 hk with hk | hk
  ·exact zcu h hr.young (by decide) k (mem_oneB.1 hk)
  ·exact inT _ hr.youngs hk
 rcases List.mem_append.1 hk with hk | hk
 ·rcases List.mem_append.1 hk with hk | hk
  ·exact zcu h hr.old (by decide) k (mem_oneB.1 hk)
  ·exact inT _ hr.olds hk
 ·exact zcu h hr.snaps (by decide) k (mem_oneB.1 hk)
open Go.RowKit
theorem zjr:∀ (bs:List ByteArray) (acc es:List Ent),allF bs acc=some es→∀ b∈bs,(unpI b.data.toList).2=true
 | [],_,_,_,b,hb=>by cases hb
 | c::r,acc,es,h,b,hb=>by
  rw[allF] at h;split at h
  ·rename_i hc;rcases List.mem_cons.1 hb with rfl | hb
   ·exact hc.1
   ·exact zjr r _ es h b hb
  ·cases h
theorem zdo{T:Tbl}(h:zA T=true):(∀ s∈T.blocks,s.size≤90009)∧T.bits.length≤1000∧T.blocks.length≤40:=by
 have hp:=zab h;have hlen:=zZ hp.1;have hb:=zpO (zp T);rw[← hp.2.2.2.2] at hb;unfold zA at h;simp only[Bool.and_eq_true] at h;obtain⟨⟨⟨h1,_⟩,_⟩,_⟩:=h;unfold allL at h1;split at h1
 ·cases h1
 ·rename_i hn;split at h1
  ·cases h1
  ·rename_i es he;refine⟨fun s hs=>?_,by omega,by omega⟩;have h2:=zjr _ _ _ he s hs;obtain⟨es',hes⟩:∃ es',unpI s.data.toList=(es',true):=⟨(unpI s.data.toList).1,by rw[← h2]⟩;obtain⟨k1,k2⟩:=zhm hes;have k3:=zpQ k1;rw[k2,ze] at k3;exact k3
theorem zeq{X:TrX}(h:TreeP X.tre):∀ t∈X.ys,zA t.T=true:=fun t ht=>h.full t.T (List.mem_append_left _ (List.mem_map_of_mem ht))
theorem zg3{X:TrX}(h:TreeP X.tre):∀ t∈X.os,zA t.T=true:=fun t ht=>h.full t.T (List.mem_append_right _ (List.mem_map_of_mem ht))
theorem zhs{X:TrX}(h:TreeP X.tre):FitTr X :=
 ⟨fun e he=>by
  have:=((za0 _).1 h.mem).2.1 e he;simp only[okE,Bool.and_eq_true,decide_eq_true_eq] at this;exact⟨by omega,by omega,by omega,by omega⟩,fun t ht s hs=>by have:=(zdo (zeq h t ht)).1 s hs;omega,fun t ht s hs=>by have:=(zdo (zg3 h t ht)).1 s hs;omega⟩
theorem zdA{X:TrX}{w:World}{lo:Nat}(h:TreeP X.tre)(hr:RowsTr w lo X):CpTr X:=by
 have hl:=zZ h.mem;have h1:X.ys.length≤6:=by have:=h.young;rw[show X.tre.young=X.ys.map (·.T) from rfl,List.length_map] at this;exact this
 have h2:X.os.length≤1:=by have:=h.old;rw[show X.tre.old=X.os.map (·.T) from rfl,List.length_map] at this;exact this
 have h3:X.snaps.length≤10:=h.few;have h4:X.mem.length≤300:=hl;refine⟨⟨by omega,by omega,by omega,by omega,fun t ht=>?_,fun t ht=>?_⟩,by omega,zdc hr.young,zdc hr.old⟩
 ·have:=zdo (zeq h t ht);exact⟨by omega,by omega,zdc (hr.youngs t ht).2⟩
 ·have:=zdo (zg3 h t ht);exact⟨by omega,by omega,zdc (hr.olds t ht).2⟩
theorem RowsTr.off{W:World}{bx:Nat}{X:TrX}(h:RowsTr W (bx+1) X){k:Nat}(hk:k≤bx):∀ j∈trB X,j ∉ [k]:=fun j hj e=>by
 have:=(h.bound hj).1;have:=List.mem_singleton.1 e;omega
open Go.RowKit
structure BoxedT (W:World) (b:Nat) (X:TrX):Prop where
 box:BoxTr W b X.vm X.vy X.vo X.seq X.vs
 rd:RdTr W X
theorem BoxedT.on{W W':World}{b:Nat}{X:TrX}(h:BoxedT W b X)(hb:Below W.heap.size W W'):BoxedT W' b X:=⟨h.box.on hb,h.rd.below hb⟩
theorem BoxedT.new{W:World}{X:TrX}(h:RdTr W X):BoxedT (W.alloc (.cells #[X.vm,X.vy,X.vo,.int .i64 X.seq,X.vs] 34)) W.heap.size X:=⟨zaF W _ _ _ _ _,h.below (za W _)⟩
def zkx(W:World)(b:Nat)(X:TrX):Prop:=W.cell? ⟨b,0,none⟩=some X.vm∧W.cell? ⟨b,1,none⟩=some X.vy∧W.cell? ⟨b,2,none⟩=some X.vo∧W.cell? ⟨b,3,none⟩=some (.int .i64 X.seq)∧W.cell? ⟨b,4,none⟩=some X.vs
theorem BoxedT.cells{W:World}{b:Nat}{X:TrX}(h:BoxedT W b X):zkx W b X:=by
 obtain⟨f0,f1,f2,f3,f4,-⟩:=h.box.facts;exact⟨f0,f1,f2,f3,f4⟩
def told(o:Option ByteArray):ByteArray×Bool:=(o.getD ⟨#[]⟩,o.isSome)
theorem zcP{T:Tre}{xs:List Wri}(h:zx T xs=true):xs.all wriOk=true∧T.seq+(xs.length:Int)≤1000000∧T.mem.length+xs.length≤300:=by
 unfold zx at h;simp only[Bool.and_eq_true,decide_eq_true_eq] at h;refine⟨?_,h.1.2,h.2⟩;have:=h.1.1;unfold zC at this;simp only[Bool.and_eq_true] at this;first | exact this.2 | exact this.1
open Go.RowKit
open Go.RowKit
theorem ze3{T:Tre}(h:TreeP T)(hs:zbM T=true):T.mem.length≠0∧T.young.length<6:=by
 unfold zbM at hs;simp only[Bool.and_eq_true,decide_eq_true_eq] at hs;have:=h.young;exact⟨hs.1,by have:=hs.2;omega⟩
theorem zjD{T:Tre}(hs:zc9 T=true):(zk (tabL T)).length≤300:=by
 unfold zc9 at hs;simp only[Bool.and_eq_true,decide_eq_true_eq] at hs;exact hs.2
theorem zdW{T:Tre}(h:TreeP T):zc1 T=if zbM T=true then zh6 T else T:=by unfold zc1;rw[if_pos ((zcl T).2 h)]
theorem zfd{T:Tre}(h:TreeP T):sinkR T=if zc9 T=true then sinkT T else T:=by unfold sinkR;rw[if_pos ((zcl T).2 h)]
theorem zcX{T:Tre}(h:TreeP T):TreeP (zc1 T):=by
 rw[zdW h];split
 ·rename_i hs;exact znI h (ze3 h hs).1 (ze3 h hs).2
 ·exact h
theorem zh4{T:Tre}(h:TreeP T):TreeP (sinkR T):=by
 rw[zfd h];split
 ·rename_i hs;exact zqU h (zjD hs)
 ·exact h
theorem zll{T:Tre}(h:TreeP T):(sinkR T).snaps=T.snaps:=by rw[zfd h];split<;>rfl
theorem zkR{T:Tre}(h:TreeP T):(zc1 T).snaps=T.snaps:=by rw[zdW h];split<;>rfl
open Go.RowKit
def rdAcc(bs:List UInt8):Nat→Nat→List ByteArray→Option (List ByteArray×Nat)
 | 0,p,acc=>some (acc,p)
 | m+1,p,acc=>if (zr (bs.drop p)).2=0 then none else rdAcc bs m (p+(zr (bs.drop p)).2) (acc++[⟨(zr (bs.drop p)).1.toArray⟩])
def rdAll(bs:List UInt8):Option (List ByteArray×Nat):=if (rdNum bs).2=0∨200<(rdNum bs).1 then none else rdAcc bs (rdNum bs).1 (rdNum bs).2 []
def fin(bs:List UInt8):Option (List ByteArray×Nat)→List ByteArray×Bool
 | none=>([],false)
 | some r=>if r.2=bs.length then (r.1,true) else ([],false)
theorem zhr(bs:List UInt8)(p:Nat):(zr (bs.drop p)).2≤bs.length-p:=by have:=zfo (bs.drop p);rwa [List.length_drop] at this
theorem zgl(bs:List UInt8)(m p:Nat)(acc:List ByteArray)(h:(zr (bs.drop p)).2=0):rdAcc bs (m+1) p acc=none:=by rw[rdAcc,if_pos h]
theorem zgm(bs:List UInt8)(m p:Nat)(acc:List ByteArray)(h:(zr (bs.drop p)).2≠0):rdAcc bs (m+1) p acc=rdAcc bs m (p+(zr (bs.drop p)).2) (acc++[⟨(zr (bs.drop p)).1.toArray⟩]):=by rw[rdAcc,if_neg h]
theorem rd_empty(w:World)(a:Option Addr)(cap:Nat)(h:cap≤maxLen):Rd w (.slice a 0 cap) []:=⟨a,cap,rfl,Nat.zero_le _,h,.inl rfl⟩
theorem rd_drop{w:World}{b off cap p:Nat}{bs:List UInt8}(hl:bs.length≤cap)(hm:cap≤maxLen)(hc:∀ i (h:i<bs.length),w.cell? ⟨b,off+i,none⟩=some (.int .u8 (bs[i].toNat:Int))):Rd w (.slice (some ⟨b,off+p,none⟩) (bs.length-p) (cap-p)) (bs.drop p):=by
 refine⟨some ⟨b,off+p,none⟩,cap-p,by rw[List.length_drop],by rw[List.length_drop];omega,by omega,.inr ⟨b,off+p,rfl,fun i hi=>?_⟩⟩;rw[List.length_drop] at hi;have:=hc (p+i) (by omega);rw[← Nat.add_assoc] at this;rw[this];simp
theorem zmA(w:World)(x:Value)(t:TypeId):∀ j u,[x][j]? = some u→(w.alloc (.cells #[x] t)).cell? ((⟨w.heap.size,0,none⟩:Addr).add j)=some u:=by
 intro j u hj;match j,hj with
 | 0,hj=>simp at hj;subst hj;simp[Addr.add]
def zgt(w:World)(res:Option (List ByteArray×Nat))(e:Ending)(w':World):Prop :=
 ∃ u,e=.returned (.tuple #[u,.int .i64 (((res.elim 0 Prod.snd:Nat)):Int)])∧OwnS w' w.heap.size u (res.elim [] Prod.fst)∧Below w.heap.size w w'
theorem zcO{w wr:World}{B:Nat}{res:Option (List ByteArray×Nat)}{u:Value}(h:res=none)(ho:OwnS wr B u [])(hB:w.heap.size≤B)(hb:Below w.heap.size w wr):zgt w res (.returned (.tuple #[u,.int .i64 0])) wr:=by
 subst h;exact⟨u,rfl,ho.mono hB,hb⟩
theorem zkV{w wr:World}{res:Option (List ByteArray×Nat)}{u:Value}{ss:List ByteArray}{p:Nat}(h:res=some (ss,p))(ho:OwnS wr w.heap.size u ss)(hb:Below w.heap.size w wr):zgt w res (.returned (.tuple #[u,.int .i64 (p:Int)])) wr:=by
 subst h;exact⟨u,rfl,ho,hb⟩
open Go.RowKit
def tx:List ByteArray→List UInt8
 | []=>[]
 | s::r=>enc s.size++s.data.toList++tx r
def zac(ss:List ByteArray):List UInt8:=if ss.length≤200∧∀ s∈ss,s.size≤3000 then enc ss.length++tx ss else []
theorem zqj(a b:List ByteArray):tx (a++b)=tx a++tx b:=by
 induction a with
 | nil=>rfl
 | cons s r ih=>simp only[List.cons_append,tx,ih,List.append_assoc]
theorem zoE(ss:List ByteArray)(k:Nat)(h:k<ss.length):tx (ss.take (k+1))=tx (ss.take k)++(enc ss[k].size++ss[k].data.toList):=by
 rw[List.take_succ_eq_append_getElem h,zqj];simp[tx]
theorem zqH(ss:List ByteArray)(h:∀ s∈ss,s.size≤3000):(tx ss).length≤3009*ss.length:=by
 induction ss with
 | nil=>simp[tx]
 | cons s r ih =>
  have h1:=ih fun t ht=>h t (List.mem_cons_of_mem _ ht)
  have h2:=h s List.mem_cons_self;have h3:=zT s.size (by omega);simp only[tx,List.length_append,ze,List.length_cons];omega
theorem zf0(ss:List ByteArray)(h:200<ss.length):zac ss=[]:=by unfold zac;rw[if_neg (by omega)]
theorem zfT(ss:List ByteArray)(k:Nat)(hk:k<ss.length)(h:3000<ss[k].size):zac ss=[]:=by
 unfold zac;rw[if_neg fun hh=>by have:=hh.2 _ (List.getElem_mem hk);omega]
theorem zcI(ss:List ByteArray)(h:ss.length≤200)(hs:∀ s∈ss,s.size≤3000):zac ss=enc ss.length++tx ss:=by unfold zac;rw[if_pos ⟨h,hs⟩]
theorem zlk(ss:List ByteArray):(zac ss).length≤700000:=by
 unfold zac;split
 ·rename_i h;have h1:=zqH ss h.2;have h2:=zT ss.length (by omega);rw[List.length_append];omega
 ·simp
theorem ziy(v:Value)(ss:List ByteArray)(w:World)(hr:RdS w v ss)(hsz:∀ s∈ss,s.size≤1048576) :
 Calls Tryz.prog 167 #[v] w fun e w'=>∃ u,e=.returned u∧Own w' w.heap.size u (zac ss)∧Below w.heap.size w w':=by
 obtain⟨i0,hi,hz0,hz1,hz2⟩:=info_parts Tryz.info5;obtain⟨T,hT⟩:∃ T,T=zac ss:=⟨_,rfl⟩;rw[← hT];have HT:Hid (T=zac ss):=hT;have HSZ:Hid (∀ s∈ss,s.size≤1048576):=hsz;clear hT hsz;obtain⟨a,cap,rfl,hl,hm,hA⟩:=hr;unfold maxLen at hm;by_cases hbig:200<ss.length
 ·have HF:Hid (T=[]):=HT.out.trans (zf0 ss hbig);clear hA;go_enter Tryz.func167,Tryz.ntmps167
  go_wp2;go_ret;rw[HF.out];exact⟨_,rfl,zbv _,(Below.refl _ _).alloc (Nat.le_refl _) _⟩
 have hL:=zT ss.length (by omega);go_enter Tryz.func167,Tryz.ntmps167
 go_wp2_with fail
 refine(zaK _ _ (by omega) (by omega)).mono ?_;rw[Int.toNat_natCast];rintro e w1 ⟨v1,rfl,ho1,hb1⟩;go_wp2;go_loopw [3,4] (fun oo ii wr=>∃ k:Nat,k≤ss.length∧ii=.int .i64 k∧Own wr w.heap.size oo (enc ss.length++tx (ss.take k))∧Below w.heap.size w wr∧Hid (∀ j (h:j<ss.length),j<k→ss[j].size≤3000)) (fun _ ii _=>ss.length-(intOf ii).toNat)
 case atStart=>exact⟨0,Nat.zero_le _,rfl,by simpa [tx] using ho1,hb1,fun j h h'=>by omega⟩
 case round =>
  obtain⟨k,hk,rfl,ho,hb,HJ⟩:=hrel;have hs:=hb.size;clear ho1 hb1;by_cases hlt:k<ss.length
  ·obtain⟨b,off,ha,hc⟩:∃ b off,a=some ⟨b,off,none⟩∧wr.cell? ⟨b,off+k,none⟩=some (.string ss[k]):=by
    rcases hA with h | ⟨b,off,ha,hc⟩
    ·subst h;simp at hlt
    ·exact⟨b,off,ha,by rw[hb.cell (World.block_lt_of_cell? w _ (hc k hlt))];exact hc k hlt⟩
   rw[ha];have hyl:(enc ss.length++tx (ss.take k)).length≤700000:=by
    have h1:=zqH (ss.take k) (fun s hs=>by
     obtain⟨j,hj,rfl⟩:=List.getElem_of_mem hs;rw[List.length_take] at hj;rw[List.getElem_take];exact HJ.out j (by omega) (by omega))
    rw[List.length_take] at h1;rw[List.length_append];omega
   have hsn:=zoE ss k hlt;obtain⟨s,hs'⟩:∃ s,s=ss[k]:=⟨_,rfl⟩;have hsk:=HSZ.out _ (List.getElem_mem hlt);have H0:Hid (3000<s.size→T=[]):=fun h=>HT.out.trans (zfT ss k hlt (by rw[← hs'];exact h))
   rw[← hs'] at hc hsk hsn;have Hs:Hid (s=ss[k]):=hs';have Hsn:Hid (tx (ss.take (k+1))=tx (ss.take k)++(enc s.size++s.data.toList)):=hsn;clear hs' hA hsn ha;by_cases hlong:3000<s.size
   ·have HF:Hid (T=[]):=H0.out hlong;clear H0;go_wp2;go_ret;rw[HF.out];exact⟨_,rfl,(zbv _).mono hs,hb.alloc hs _⟩
   ·generalize hys:enc ss.length++tx (ss.take k)=ys at ho hyl;have Hys:Hid (enc ss.length++tx (ss.take k)=ys):=hys;have hel:=zT s.size (by omega);have hz:(enc s.size++s.data.toList).length≤3009:=by rw[List.length_append,ze];omega
    clear hys H0;go_wp2_with fail
    refine(zcn s _ (by omega)).mono ?_;rintro e w2 ⟨v2,rfl,ho2,hb2⟩;obtain⟨g2,c2,hv2,hcl⟩:=zi4 ho2 (by simp[zmL]);have ho':=ho.below hb2;have hb':=hb.trans (hb2.mono hs);have hs2:=hb2.size;generalize enc s.size++s.data.toList=zs at hz ho2 hv2 hcl Hsn;subst hv2;have Hcl:Hid (∀ j u,(BV zs)[j]? = some u→w2.cell? ((⟨g2,0,none⟩:Addr).add j)=some u):=hcl;clear ho hb hb2 hcl ho2;go_wp2_with (at_builtin;(refine wpList_append_own _ rfl _ _ 105 rfl w.heap.size 5 i0 (.int .u8 0) 1 1 Tryz.underlying105 hi hz0 hz1 hz2 rfl (by decide) _ _ _ rfl ho' ⟨g2,0,none⟩ zs.length c2 (BV zs) rfl (by rw[zhL,Nat.mul_one]) Hcl.out (zfB zs) ?c3 ?c4 ?c5 ?_))
    case c3=>unfold maxLen;omega
    case c4=>omega
    case c5=>omega
    intro v' w3 hown' hgrow _;have R1:=zi2 hown';have R2:=zdZ ho' hb' (by omega) hgrow;have e3:ys++zs=enc ss.length++tx (ss.take (k+1)):=by rw[Hsn.out,← Hys.out,List.append_assoc]
    rw[e3] at R1;clear hown' hgrow ho' hb' e3;go_wp2;go_roundw
    case rel =>
     refine⟨k+1,by omega,by go_num,R1,R2,fun j h h'=>?_⟩;by_cases hjk:j=k
     ·subst hjk;rw[← Hs.out];omega
     ·exact HJ.out j h (by omega)
    case measure=>simp[intOf];omega
  ·have hke:k=ss.length:=by omega
   subst hke;have HF:Hid (T=enc ss.length++tx ss):=HT.out.trans (zcI ss (by omega) (fun s hs=>by obtain⟨j,hj,rfl⟩:=List.getElem_of_mem hs;exact HJ.out j hj hj));rw[List.take_length] at ho;go_wp2;go_ret;rw[HF.out];exact⟨_,rfl,ho,hb⟩
theorem zjm(v:Value)(ss:List ByteArray)(w:World)(hr:RdS w v ss)(hsz:∀ s∈ss,s.size≤1048576) :
 Calls Tryz.prog 88 #[v] w fun e w'=>∃ u,e=.returned u∧Own w' w.heap.size u (zac ss)∧Below w.heap.size w w':=by
 obtain⟨i0,hi,hz0,hz1,hz2⟩:=info_parts Tryz.info5;obtain⟨T,hT⟩:∃ T,T=zac ss:=⟨_,rfl⟩;rw[← hT];have HT:Hid (T=zac ss):=hT;have HSZ:Hid (∀ s∈ss,s.size≤1048576):=hsz;clear hT hsz;obtain⟨a,cap,rfl,hl,hm,hA⟩:=hr;unfold maxLen at hm;by_cases hbig:200<ss.length
 ·have HF:Hid (T=[]):=HT.out.trans (zf0 ss hbig);clear hA;go_enter Tryz.func88,Tryz.ntmps88
  go_wp2;go_ret;rw[HF.out];exact⟨_,rfl,zbv _,(Below.refl _ _).alloc (Nat.le_refl _) _⟩
 have hL:=zT ss.length (by omega);have hn:=zg2 (ss.length:Int) (by omega) (by omega);rw[Int.toNat_natCast] at hn;have Hn:Hid (num (ss.length:Int)=enc ss.length):=hn;clear hn;go_enter Tryz.func88,Tryz.ntmps88
 go_wp2_with fail
 refine(zaT _ _).mono ?_;rw[Hn.out];rintro e w1 ⟨v1,rfl,ho1,hb1⟩;go_wp2;go_loopw [3,15] (fun oo ii wr=>∃ k:Nat,k≤ss.length∧ii=.int .i64 k∧Own wr w.heap.size oo (enc ss.length++tx (ss.take k))∧Below w.heap.size w wr∧Hid (∀ j (h:j<ss.length),j<k→ss[j].size≤3000)) (fun _ ii _=>ss.length-(intOf ii).toNat)
 case atStart=>exact⟨0,Nat.zero_le _,rfl,by simpa [tx] using ho1,hb1,fun j h h'=>by omega⟩
 case round =>
  obtain⟨k,hk,rfl,ho,hb,HJ⟩:=hrel;have hs:=hb.size;clear ho1 hb1;by_cases hlt:k<ss.length
  ·obtain⟨b,off,ha,hc⟩:∃ b off,a=some ⟨b,off,none⟩∧wr.cell? ⟨b,off+k,none⟩=some (.string ss[k]):=by
    rcases hA with h | ⟨b,off,ha,hc⟩
    ·subst h;simp at hlt
    ·exact⟨b,off,ha,by rw[hb.cell (World.block_lt_of_cell? w _ (hc k hlt))];exact hc k hlt⟩
   rw[ha];have hyl:(enc ss.length++tx (ss.take k)).length≤700000:=by
    have h1:=zqH (ss.take k) (fun s hs=>by
     obtain⟨j,hj,rfl⟩:=List.getElem_of_mem hs;rw[List.length_take] at hj;rw[List.getElem_take];exact HJ.out j (by omega) (by omega))
    rw[List.length_take] at h1;rw[List.length_append];omega
   have hsn:=zoE ss k hlt;obtain⟨s,hs'⟩:∃ s,s=ss[k]:=⟨_,rfl⟩;have hsk:=HSZ.out _ (List.getElem_mem hlt);have H0:Hid (3000<s.size→T=[]):=fun h=>HT.out.trans (zfT ss k hlt (by rw[← hs'];exact h))
   rw[← hs'] at hc hsk hsn;have Hs:Hid (s=ss[k]):=hs';have Hsn:Hid (tx (ss.take (k+1))=tx (ss.take k)++(enc s.size++s.data.toList)):=hsn;clear hs' hA hsn ha;by_cases hlong:3000<s.size
   ·have HF:Hid (T=[]):=H0.out hlong;clear H0;go_wp2;go_ret;rw[HF.out];exact⟨_,rfl,(zbv _).mono hs,hb.alloc hs _⟩
   ·generalize hys:enc ss.length++tx (ss.take k)=ys at ho hyl;have Hys:Hid (enc ss.length++tx (ss.take k)=ys):=hys;have hel:=zT s.size (by omega);have hz:(enc s.size++s.data.toList).length≤3009:=by rw[List.length_append,ze];omega
    clear hys H0;go_wp2_with fail
    refine(zdq s _ (by omega)).mono ?_;rw[zjp s (by omega)];rintro e w2 ⟨v2,rfl,ho2,hb2⟩;obtain⟨g2,c2,hv2,hcl⟩:=zi4 ho2 (by simp[zmL]);have ho':=ho.below hb2;have hb':=hb.trans (hb2.mono hs);have hs2:=hb2.size;generalize enc s.size++s.data.toList=zs at hz ho2 hv2 hcl Hsn;subst hv2;have Hcl:Hid (∀ j u,(BV zs)[j]? = some u→w2.cell? ((⟨g2,0,none⟩:Addr).add j)=some u):=hcl;clear ho hb hb2 hcl ho2;go_wp2_with (at_builtin;(refine wpList_append_own _ rfl _ _ 105 rfl w.heap.size 5 i0 (.int .u8 0) 1 1 Tryz.underlying105 hi hz0 hz1 hz2 rfl (by decide) _ _ _ rfl ho' ⟨g2,0,none⟩ zs.length c2 (BV zs) rfl (by rw[zhL,Nat.mul_one]) Hcl.out (zfB zs) ?c3 ?c4 ?c5 ?_))
    case c3=>unfold maxLen;omega
    case c4=>omega
    case c5=>omega
    intro v' w3 hown' hgrow _;have R1:=zi2 hown';have R2:=zdZ ho' hb' (by omega) hgrow;have e3:ys++zs=enc ss.length++tx (ss.take (k+1)):=by rw[Hsn.out,← Hys.out,List.append_assoc]
    rw[e3] at R1;clear hown' hgrow ho' hb' e3;go_wp2;go_roundw
    case rel =>
     refine⟨k+1,by omega,by go_num,R1,R2,fun j h h'=>?_⟩;by_cases hjk:j=k
     ·subst hjk;rw[← Hs.out];omega
     ·exact HJ.out j h (by omega)
    case measure=>simp[intOf];omega
  ·have hke:k=ss.length:=by omega
   subst hke;have HF:Hid (T=enc ss.length++tx ss):=HT.out.trans (zcI ss (by omega) (fun s hs=>by obtain⟨j,hj,rfl⟩:=List.getElem_of_mem hs;exact HJ.out j hj hj));rw[List.take_length] at ho;go_wp2;go_ret;rw[HF.out];exact⟨_,rfl,ho,hb⟩
theorem rdAcc_tx(bs:List UInt8):∀ (ss:List ByteArray) (p:Nat) (acc:List ByteArray),(∀ s∈ss,s.size≤3000)→bs.drop p=tx ss→rdAcc bs ss.length p acc=some (acc++ss,p+(tx ss).length):=by
 intro ss;induction ss with
 | nil=>intro p acc _ _;simp[rdAcc,tx]
 | cons s r ih =>
  intro p acc hs hd;have h3:=hs s List.mem_cons_self;have hp:=zbL s.size;have hT:zr (bs.drop p)=(s.data.toList,(enc s.size++s.data.toList).length):=by rw[hd,tx];exact zfA s _ h3
  rw[List.length_cons,zgm bs r.length p acc (by rw[hT];simp only[List.length_append];omega),hT];simp only;rw[back,ih _ _ (fun t ht=>hs t (List.mem_cons_of_mem _ ht)) (by rw[← List.drop_drop,hd,tx];exact List.drop_left),tx,List.append_assoc];simp only[List.singleton_append,Nat.add_assoc,List.length_append]
theorem zph(ss:List ByteArray)(h:zac ss≠[]):fin (zac ss) (rdAll (zac ss))=(ss,true):=by
 have hh:ss.length≤200∧∀ s∈ss,s.size≤3000:=by
  refine Decidable.byContradiction fun hn=>h ?_
  unfold zac;rw[if_neg hn]
 have e:=zcI ss hh.1 hh.2;have hp:=zbL ss.length;rw[e];unfold rdAll;rw[zdr ss.length _ (by omega)];simp only;rw[if_neg (by omega),rdAcc_tx _ ss _ _ hh.2 List.drop_left];unfold fin;simp only[List.length_append,List.nil_append,if_pos]
theorem znq(bs:List UInt8):∀ (m p:Nat) (acc:List ByteArray) (r:List ByteArray×Nat),rdAcc bs m p acc=some r→p≤bs.length→∃ ss,r.1=acc++ss∧ss.length=m∧(∀ s∈ss,s.size≤3000)∧r.2=p+(tx ss).length∧(bs.drop p).take (tx ss).length=tx ss∧r.2≤bs.length:=by
 intro m;induction m with
 | zero =>
  intro p acc r h hp;rw[rdAcc] at h;cases h
  exact⟨[],by simp,rfl,(fun s hs=>(by cases hs)),by simp[tx],by simp[tx],hp⟩
 | succ m ih =>
  intro p acc r h hp;by_cases hT:(zr (bs.drop p)).2=0
  ·rw[zgl bs m p acc hT] at h;cases h
  ·rw[zgm bs m p acc hT] at h;obtain⟨b1,b2,b3⟩:=zes (bs.drop p) hT;rw[List.length_drop] at b3;obtain⟨ss,h1,h2,h3,h4,h5,h6⟩:=ih _ _ r h (by omega);generalize hs:(⟨(zr (bs.drop p)).1.toArray⟩:ByteArray)=s at h1;have hsl:s.data.toList=(zr (bs.drop p)).1:=by rw[← hs]
   have hsz:s.size=(zr (bs.drop p)).1.length:=by rw[← hsl,ze]
   have hE:tx (s::ss)=(bs.drop p).take (zr (bs.drop p)).2++tx ss:=by rw[tx,hsl,hsz,← b2]
   have hEl:((bs.drop p).take (zr (bs.drop p)).2).length=(zr (bs.drop p)).2:=by rw[List.length_take,List.length_drop];omega
   refine⟨s::ss,by rw[h1];simp,by rw[List.length_cons,h2],fun t ht=>?_,?_,?_,h6⟩
   ·rcases List.mem_cons.1 ht with e | e
    ·subst e;omega
    ·exact h3 t e
   ·rw[hE,List.length_append,hEl,h4];omega
   ·rw[hE,List.length_append,hEl,List.take_add,List.drop_drop,h5]
theorem zmt(bs:List UInt8)(ss:List ByteArray)(h:fin bs (rdAll bs)=(ss,true)):zac ss=bs:=by
 cases hr:rdAll bs with
 | none=>rw[hr] at h;cases h
 | some r =>
  rw[hr] at h;unfold fin at h;simp only at h;by_cases hl:r.2=bs.length
  ·rw[if_pos hl] at h;obtain⟨h1,_⟩:=Prod.mk.inj h;subst h1;unfold rdAll at hr;by_cases hc:(rdNum bs).2=0∨200<(rdNum bs).1
   ·rw[if_pos hc] at hr;cases hr
   ·rw[if_neg hc] at hr;have hb:=zcw bs (by omega);have hn:=zag bs;obtain⟨ss,h1,h2,h3,h4,h5,_⟩:=znq bs _ _ _ r hr hn.1;rw[List.nil_append] at h1;rw[h1];rw[zcI ss (by omega) h3,h2,← hb.1];have e:bs.drop (rdNum bs).2=tx ss:=by
     rw[← h5,List.take_of_length_le (by rw[List.length_drop];omega)]
    rw[← e,List.take_append_drop]
  ·rw[if_neg hl] at h;cases h
theorem fin_no(bs:List UInt8)(ss:List ByteArray)(h:fin bs (rdAll bs)=(ss,false)):ss=[]:=by
 cases hr:rdAll bs with
 | none=>rw[hr] at h;cases h;rfl
 | some r =>
  rw[hr] at h;unfold fin at h;simp only at h;split at h
  ·cases h
  ·cases h;rfl
end Go.Proofs.YtannfbpohhnnkaaGreatDoor
