import Derived.Test.YtannfbpohhnnkaaGreatDoorChecked
import Derived.WalkKit
import Derived.WalkSmall
import Derived.OpenShut
import Derived.Deep.DeepMust
import Derived.Deep.DeepFit
import Derived.BigQuiet
import Derived.Laws.IdiomStrings
import Derived.Laws.BytesArg
import Derived.Lib.ConvBytes
namespace Go.Proofs.YtannfbpohhnnkaaGreatDoor
set_option maxHeartbeats 16000000
set_option maxRecDepth 100000
theorem sA{α:Type}(l:List α)(i:Nat)(a:α):l.toArray.setIfInBounds i a=(l.set i a).toArray:=List.setIfInBounds_toArray l i a
theorem sZ{α:Type}{x:α}{xs:List α}{a:α}:(x::xs).set 0 a=a::xs:=rfl
theorem sS{α:Type}{x:α}{xs:List α}{n:Nat}{a:α}:(x::xs).set (n+1) a=x::xs.set n a:=rfl
open Go.RowKit
def BV(bs:List UInt8):List Value:=bs.map fun b:UInt8=>Value.int .u8 (b.toNat:Int)
theorem zhL(bs:List UInt8):(BV bs).length=bs.length:=by simp[BV]
theorem zkT(a b:List UInt8):BV (a++b)=BV a++BV b:=by simp[BV]
theorem zqV(bs:List UInt8)(i:Nat)(h:i<bs.length):(BV bs)[i]? = some (.int .u8 (bs[i].toNat:Int)):=by simp[BV,h]
def Own(w:World)(base:Nat)(v:Value)(bs:List UInt8):Prop:=w.ownsRow base 5 1 v bs.length (BV bs)
def Rd(w:World)(v:Value)(bs:List UInt8):Prop :=
 ∃ a cap,v=.slice a bs.length cap∧bs.length≤cap∧cap≤maxLen ∧
  (bs=[]∨∃ b off,a=some ⟨b,off,none⟩∧∀ i (h:i<bs.length),w.cell? ⟨b,off+i,none⟩=some (.int .u8 (bs[i].toNat:Int)))
theorem Own.rd{w:World}{base:Nat}{v:Value}{bs:List UInt8}(h:Own w base v bs):Rd w v bs:=by
 have h':=h;rcases h.2 with ⟨rfl,h0⟩ | ⟨g,cap,cur,rfl,hb,hg,hn,hc,hs,ht⟩
 ·have:bs=[]:=List.length_eq_zero_iff.1 h0;subst this;exact⟨none,0,rfl,Nat.le_refl _,Nat.zero_le _,.inl rfl⟩
 ·refine⟨some ⟨g,0,none⟩,cap,rfl,hn,hc,.inr ⟨g,0,rfl,fun i hi=>?_⟩⟩;have:=h'.cellAt i (by omega);rw[zqV bs i hi] at this;simpa using this
theorem zaB{w w':World}{base:Nat}{e:TypeId}{s:Nat}{v:Value}{n:Nat}{xs:List Value}(h:w.ownsRow base e s v n xs)(hb:Below w.heap.size w w'):w'.ownsRow base e s v n xs:=by
 refine⟨h.1,?_⟩;rcases h.2 with h2 | ⟨g,cap,cur,hv,hg,hh,r⟩
 ·exact .inl h2
 ·exact .inr ⟨g,cap,cur,hv,hg,by rw[hb.block g (Array.getElem?_eq_some_iff.1 hh).1];exact hh,r⟩
theorem Own.below{w w':World}{base:Nat}{v:Value}{bs:List UInt8}(h:Own w base v bs)(hb:Below w.heap.size w w'):Own w' base v bs:=zaB h hb
theorem Own.drewN{w:World}{base:Nat}{v:Value}{bs:List UInt8}(h:Own w base v bs)(q:Nat):Own (w.drewN q) base v bs:=h
theorem Own.mono{w:World}{base base':Nat}{v:Value}{bs:List UInt8}(h:Own w base v bs)(hb:base'≤base):Own w base' v bs:=by
 refine⟨h.1,?_⟩;rcases h.2 with h2 | ⟨g,cap,cur,hv,hg,r⟩
 ·exact .inl h2
 ·exact .inr ⟨g,cap,cur,hv,Nat.le_trans hb hg,r⟩
theorem Rd.below{w w':World}{v:Value}{bs:List UInt8}(h:Rd w v bs)(hb:Below w.heap.size w w'):Rd w' v bs:=by
 obtain⟨a,cap,hv,h1,h2,h3⟩:=h;refine⟨a,cap,hv,h1,h2,?_⟩;rcases h3 with h3 | ⟨b,off,ha,hc⟩
 ·exact .inl h3
 ·exact .inr ⟨b,off,ha,fun i hi=>by rw[hb.cell (World.block_lt_of_cell? w _ (hc i hi))];exact hc i hi⟩
theorem Rd.drewN{w:World}{v:Value}{bs:List UInt8}(h:Rd w v bs)(q:Nat):Rd (w.drewN q) v bs:=h
theorem Rd.shape{w:World}{v:Value}{bs:List UInt8}(h:Rd w v bs):∃ a cap,v=.slice a bs.length cap:=⟨h.choose,h.choose_spec.choose,h.choose_spec.choose_spec.1⟩
theorem zgs{w1:World}{B:Nat}{v':Value}{ys:List UInt8}{x:Int}(b:UInt8)(hx:x=(b.toNat:Int))(h:w1.ownsRow B 5 1 v' (ys.length+1) (BV ys++[.int .u8 x])):Own w1 B v' (ys++[b]):=by
 subst hx;have e:BV (ys++[b])=BV ys++[.int .u8 (b.toNat:Int)]:=by simp[BV]
 unfold Own;rw[e,List.length_append];exact h
theorem zd3{w wr w1:World}{B:Nat}{v:Value}{o:Obj}{ys:List UInt8}(hown:Own wr B v ys)(hb:Below B w wr)(hB:B≤wr.heap.size)(hg:(wr.alloc o).grownBy w1 v.ownBlock):Below B w w1 :=
 (hb.alloc hB o).grown hg (by simp;omega) (fun k hk=>(World.ownsRow.lt hown k hk).1)
theorem zjh(w:World)(x:Value)(t:TypeId):∀ j u,[x][j]? = some u→(w.alloc (.cells #[x] t)).cell? ((⟨w.heap.size,0,none⟩:Addr).add j)=some u:=by
 intro j u hj;match j,hj with
 | 0,hj=>simp at hj;subst hj;simp[Addr.add]
def enc(n:Nat):List UInt8:=if h:n<128 then [UInt8.ofNat n] else UInt8.ofNat (n % 128+128)::enc (n / 128)
theorem za5(n:Nat)(h:n<128):enc n=[UInt8.ofNat n]:=by rw[enc,dif_pos h]
theorem zfv(n:Nat)(h:128≤n):enc n=UInt8.ofNat (n % 128+128)::enc (n / 128):=by rw[enc,dif_neg (by omega)]
theorem enc_len(k:Nat):∀ n,n<128 ^ (k+1)→(enc n).length≤k+1:=by
 induction k with
 | zero=>intro n h;rw[za5 n (by simpa using h)];simp
 | succ k ih =>
  intro n h;by_cases hn:n<128
  ·rw[za5 n hn];simp
  ·rw[zfv n (by omega),List.length_cons];have:=ih (n / 128) (by rw[Nat.pow_succ] at h;omega);omega
theorem zT(n:Nat)(h:n≤9223372036854775807):(enc n).length≤9:=enc_len 8 n (by omega)
theorem zjt(n:Nat)(h:n<128):((UInt8.ofNat n).toNat:Int)=(n:Int):=by
 rw[UInt8.toNat_ofNat'];omega
theorem zh1(n:Nat):((UInt8.ofNat (n % 128+128)).toNat:Int)=(n:Int) % 128+128:=by
 rw[UInt8.toNat_ofNat'];omega
def num(n:Int):List UInt8:=if 0≤n∧n≤1099511627776 then enc n.toNat else []
open Go.RowKit
open Go.RowKit
theorem Tryz.info5:(Tryz.prog.info? 5).map (fun i=>(i.zero,i.size,i.bytes))=some (some (.int .u8 0),1,1):=by kernel_rfl
theorem zbv(w:World):Own (w.alloc (.cells #[] 5)) w.heap.size (.slice (some ⟨w.heap.size,0,none⟩) 0 0) []:=World.ownsRow_lit w #[] 0 (Nat.le_refl _) (Nat.zero_le _) rfl
theorem ze(s:ByteArray):s.data.toList.length=s.size:=by rw[Array.length_toList];rfl
theorem zhd(w:World)(b o n c:Nat)(l:List UInt8)(hl:l.length=n)(hc:∀ j (hj:j<l.length),w.cell? ⟨b,o+j,none⟩=some (.int .u8 (l[j].toNat:Int))) :
 (convert 105 9 (.slice (some ⟨b,o,none⟩) n c)).run Tryz.prog w=.ok (.string ⟨l.toArray⟩) w:=by
 subst hl;exact run_convert_bytes_back w 105 9 5 ⟨b,o,none⟩ c l Tryz.underlying105 Tryz.underlying5 Tryz.underlying9 (fun j hj=>by rw[Addr.add_lit];exact hc j hj)
theorem zdN{w:World}{B:Nat}{v:Value}{bs:List UInt8}(h:Own w B v bs):(convert 105 9 v).run Tryz.prog w=.ok (.string ⟨bs.toArray⟩) w:=by
 rcases h.2 with ⟨rfl,h0⟩ | ⟨g,cap,cur,rfl,_⟩
 ·have:bs=[]:=List.length_eq_zero_iff.1 h0;subst this;exact run_convert_bytes_nil w 105 5 Tryz.underlying105 Tryz.underlying5 0 0 9 Tryz.underlying9
 ·refine zhd w g 0 bs.length cap bs rfl fun j hj=>?_
  have:=World.ownsRow.cellAt h j (by omega);rw[zqV bs j hj] at this;rw[Nat.zero_add];exact this
theorem zgA(k:Nat):((UInt8.ofNat (48+k % 10)).toNat:Int)=48+(k:Int) % 10:=by
 rw[UInt8.toNat_ofNat'];omega
theorem ziZ(w:World)(b:UInt8)(x:Int)(hx:(b.toNat:Int)=x) :
 (convert 105 9 (.slice (some ⟨w.heap.size,0,none⟩) 1 1)).run Tryz.prog (w.alloc (.cells #[.int .u8 x] 5))=.ok (.string ⟨#[b]⟩) (w.alloc (.cells #[.int .u8 x] 5)):=by
 refine zhd _ w.heap.size 0 1 1 [b] rfl fun j hj=>?_
 have:j=0:=by simpa using hj
 subst this;simp[hx]
theorem zcB(w:World)(s:ByteArray):(convert 9 105 (.string s)).run Tryz.prog w=.ok (.slice (some ⟨w.heap.size,0,none⟩) s.size (grownCap w s.size 0 5)) (Lib.bytesWorld w 5 s) :=
 Lib.run_convert_string_bytes w 9 105 5 s Tryz.underlying9 Tryz.underlying105 Tryz.underlying5
theorem ze6(w:World)(s:ByteArray)(hs:s.size≤maxLen):Rd (Lib.bytesWorld w 5 s) (.slice (some ⟨w.heap.size,0,none⟩) s.size (grownCap w s.size 0 5)) s.data.toList:=by
 have hl:=ze s;refine⟨_,_,by rw[hl],by rw[hl];exact grownCap_ge w s.size 0 _,grownCap_le_maxLen w s.size 0 _ hs,.inr ⟨w.heap.size,0,rfl,fun i hi=>?_⟩⟩;rw[Nat.zero_add,Lib.bytesWorld_cell w _ s i (by omega)];simp[List.getD,List.getElem?_eq_getElem hi]
theorem zbH(w:World)(s:ByteArray):Below w.heap.size w (Lib.bytesWorld w 5 s) :=
 ⟨rfl,rfl,rfl,by rw[Lib.bytesWorld_size];omega,fun k hk=>Lib.bytesWorld_at_old w _ s k hk⟩
theorem zi4{w:World}{B:Nat}{v:Value}{bs:List UInt8}(h:Own w B v bs)(hn:bs≠[]):∃ g cap,v=.slice (some ⟨g,0,none⟩) bs.length cap∧∀ j u,(BV bs)[j]? = some u→w.cell? ((⟨g,0,none⟩:Addr).add j)=some u:=by
 rcases h.2 with ⟨_,h0⟩ | ⟨g,cap,cur,hv,_⟩
 ·exact absurd (List.length_eq_zero_iff.1 h0) hn
 ·exact⟨g,cap,hv,World.ownsRow.cells h (by rw[hv];rfl)⟩
theorem zfB(bs:List UInt8):∀ u∈BV bs,u.oneCell'=true:=by
 intro u hu;obtain⟨_,_,rfl⟩:=List.mem_map.1 hu;rfl
theorem zi2{w1:World}{B:Nat}{v':Value}{ys zs:List UInt8}(h:w1.ownsRow B 5 1 v' (ys.length+zs.length) (BV ys++BV zs)):Own w1 B v' (ys++zs):=by
 unfold Own;rw[zkT,List.length_append];exact h
open Go.RowKit
theorem Tryz.info9:(Tryz.prog.info? 9).map (fun i=>(i.zero,i.size,i.bytes))=some (some (.string ⟨#[]⟩),1,16):=by kernel_rfl
def SV(ss:List ByteArray):List Value:=ss.map Value.string
theorem zj9(ss:List ByteArray):(SV ss).length=ss.length:=by simp[SV]
theorem zoP(a b:List ByteArray):SV (a++b)=SV a++SV b:=by simp[SV]
theorem zpX(ss:List ByteArray)(i:Nat)(h:i<ss.length):(SV ss)[i]? = some (.string ss[i]):=by simp[SV,h]
theorem SV_set(ss:List ByteArray)(i:Nat)(s:ByteArray):SV (ss.set i s)=(SV ss).set i (.string s):=by simp[SV,List.map_set]
def OwnS(w:World)(base:Nat)(v:Value)(ss:List ByteArray):Prop:=w.ownsRow base 9 1 v ss.length (SV ss)
def RdS(w:World)(v:Value)(ss:List ByteArray):Prop :=
 ∃ a cap,v=.slice a ss.length cap∧ss.length≤cap∧cap≤maxLen ∧
  (ss=[]∨∃ b off,a=some ⟨b,off,none⟩∧∀ i (h:i<ss.length),w.cell? ⟨b,off+i,none⟩=some (.string ss[i]))
theorem OwnS.rd{w:World}{base:Nat}{v:Value}{ss:List ByteArray}(h:OwnS w base v ss):RdS w v ss:=by
 have h':=h;rcases h.2 with ⟨rfl,h0⟩ | ⟨g,cap,cur,rfl,hb,hg,hn,hc,hs,ht⟩
 ·have:ss=[]:=List.length_eq_zero_iff.1 h0;subst this;exact⟨none,0,rfl,Nat.le_refl _,Nat.zero_le _,.inl rfl⟩
 ·refine⟨some ⟨g,0,none⟩,cap,rfl,hn,hc,.inr ⟨g,0,rfl,fun i hi=>?_⟩⟩;have:=h'.cellAt i (by omega);rw[zpX ss i hi] at this;simpa using this
theorem OwnS.below{w w':World}{base:Nat}{v:Value}{ss:List ByteArray}(h:OwnS w base v ss)(hb:Below w.heap.size w w'):OwnS w' base v ss:=zaB h hb
theorem OwnS.drewN{w:World}{base:Nat}{v:Value}{ss:List ByteArray}(h:OwnS w base v ss)(q:Nat):OwnS (w.drewN q) base v ss:=h
theorem OwnS.mono{w:World}{base base':Nat}{v:Value}{ss:List ByteArray}(h:OwnS w base v ss)(hb:base'≤base):OwnS w base' v ss:=by
 refine⟨h.1,?_⟩;rcases h.2 with h2 | ⟨g,cap,cur,hv,hg,r⟩
 ·exact .inl h2
 ·exact .inr ⟨g,cap,cur,hv,Nat.le_trans hb hg,r⟩
theorem RdS.below{w w':World}{v:Value}{ss:List ByteArray}(h:RdS w v ss)(hb:Below w.heap.size w w'):RdS w' v ss:=by
 obtain⟨a,cap,hv,h1,h2,h3⟩:=h;refine⟨a,cap,hv,h1,h2,?_⟩;rcases h3 with h3 | ⟨b,off,ha,hc⟩
 ·exact .inl h3
 ·exact .inr ⟨b,off,ha,fun i hi=>by rw[hb.cell (World.block_lt_of_cell? w _ (hc i hi))];exact hc i hi⟩
theorem RdS.drewN{w:World}{v:Value}{ss:List ByteArray}(h:RdS w v ss)(q:Nat):RdS (w.drewN q) v ss:=h
theorem zR(w:World):OwnS (w.alloc (.cells #[] 9)) w.heap.size (.slice (some ⟨w.heap.size,0,none⟩) 0 0) []:=World.ownsRow_lit w #[] 0 (Nat.le_refl _) (Nat.zero_le _) rfl
theorem zgP{w1:World}{B:Nat}{v':Value}{ys:List ByteArray}{x:ByteArray}(h:w1.ownsRow B 9 1 v' (ys.length+1) (SV ys++[.string x])):OwnS w1 B v' (ys++[x]):=by
 have e:SV (ys++[x])=SV ys++[.string x]:=by simp[SV]
 unfold OwnS;rw[e,List.length_append];exact h
theorem zaV{w wr w1:World}{B B':Nat}{v:Value}{o:Obj}{ys:List ByteArray}(hown:OwnS wr B' v ys)(hBB:B≤B')(hb:Below B w wr)(hB:B≤wr.heap.size)(hg:(wr.alloc o).grownBy w1 v.ownBlock):Below B w w1 :=
 (hb.alloc hB o).grown hg (by simp;omega) (fun k hk=>Nat.le_trans hBB (World.ownsRow.lt hown k hk).1)
theorem zj{w w':World}{B:Nat}{e:TypeId}{s:Nat}{v:Value}{n:Nat}{xs:List Value}{row:Option Nat}(h:w.ownsRow B e s v n xs)(hg:w.grownBy w' row)(hd:∀ k,v.ownBlock=some k→row≠some k):w'.ownsRow B e s v n xs:=by
 refine World.ownsRow.kept h hg ?_;cases hu:v.ownBlock with
 | none=>exact .inl rfl
 | some k=>exact .inr fun e=>hd k hu e.symm
open Go.RowKit
structure Ent where
 key:ByteArray
 val:ByteArray
 seq:Int
 gone:Bool
deriving DecidableEq
instance:Inhabited Ent:=⟨⟨ByteArray.empty,ByteArray.empty,0,false⟩⟩
def nth(es:List Ent)(i:Nat):Ent:=es.getD i default
theorem zE{es:List Ent}{i:Nat}(h:i<es.length):nth es i=es[i]:=by simp[nth,List.getD,List.getElem?_eq_getElem h]
theorem zbs(a:Ent)(r:List Ent):nth (a::r) 0=a:=rfl
theorem zgw(a:Ent)(r:List Ent)(i:Nat):nth (a::r) (i+1)=nth r i:=by simp[nth,List.getD]
def kEq(a b:ByteArray):Bool:=decide (a=b)
def kLt(a b:ByteArray):Bool:=Op.bytesLess a.toList b.toList
theorem zjL:∀ x:List UInt8,Op.bytesLess x x=false
 | []=>rfl
 | a::x=>by simp[Op.bytesLess,zjL x,UInt8.lt_irrefl]
theorem zmr:∀ x y z:List UInt8,Op.bytesLess x y=true→Op.bytesLess y z=true→Op.bytesLess x z=true
 | _,[],_,h,_=>by simp[Op.bytesLess] at h
 | _,_::_,[],_,h=>by simp[Op.bytesLess] at h
 | [],_::_,_::_,_,_=>rfl
 | a::x,b::y,c::z,h,k=>by
  simp only[Op.bytesLess,Bool.or_eq_true,decide_eq_true_eq,Bool.and_eq_true,beq_iff_eq] at h k ⊢;rcases h with h | ⟨h,h'⟩<;>rcases k with k | ⟨k,k'⟩
  ·exact .inl (UInt8.lt_trans h k)
  ·subst k;exact .inl h
  ·subst h;exact .inl k
  ·subst h;subst k;exact .inr ⟨rfl,zmr x y z h' k'⟩
theorem bl_tri:∀ x y:List UInt8,Op.bytesLess x y=false→Op.bytesLess y x=false→x=y
 | [],[],_,_=>rfl
 | [],_::_,h,_=>by simp[Op.bytesLess] at h
 | _::_,[],_,h=>by simp[Op.bytesLess] at h
 | a::x,b::y,h,k=>by
  simp only[Op.bytesLess,Bool.or_eq_false_iff,decide_eq_false_iff_not,Bool.and_eq_false_iff,decide_eq_false_iff_not] at h k;have hab:a=b:=by
   apply UInt8.toNat_inj.1;have h1:=h.1;have k1:=k.1;rw[UInt8.lt_iff_toNat_lt] at h1 k1;omega
  subst hab;rcases h.2 with h2 | h2
  ·simp at h2
  ·rcases k.2 with k2 | k2
   ·simp at k2
   ·rw[bl_tri x y h2 k2]
theorem zbu{a b:ByteArray}(h:a.toList=b.toList):a=b:=by
 have e:∀ c:ByteArray,c.toList=c.data.toList:=fun c=>ByteArray.toList_eq c
 rw[e,e] at h;cases a;cases b;simp_all
theorem zW(a:ByteArray):kLt a a=false:=zjL _
theorem zgL{a b c:ByteArray}(h:kLt a b=true)(k:kLt b c=true):kLt a c=true:=zmr _ _ _ h k
theorem zk5{a b:ByteArray}(h:kLt a b=false)(k:kLt b a=false):a=b:=zbu (bl_tri _ _ h k)
def ahd(a b:Ent):Bool:=kLt a.key b.key||(kEq a.key b.key&&decide (b.seq<a.seq))
def zz(a b:Ent):Bool:=kEq a.key b.key&&decide (a.seq=b.seq)
theorem zaX(a b:Ent):ahd a b=true↔kLt a.key b.key=true∨(a.key=b.key∧b.seq<a.seq):=by simp[ahd,kEq]
theorem zaD{a b c:Ent}(h:ahd a b=true)(k:ahd b c=true):ahd a c=true:=by
 rw[zaX] at h k ⊢;rcases h with h | ⟨h,h'⟩<;>rcases k with k | ⟨k,k'⟩
 ·exact .inl (zgL h k)
 ·exact .inl (k ▸ h)
 ·exact .inl (h ▸ k)
 ·exact .inr ⟨h.trans k,by omega⟩
theorem za3(a:Ent):ahd a a=false:=by simp[ahd,kEq,zW]
theorem zlb{a b:Ent}(h:ahd a b=false)(k:zz a b=false):ahd b a=true:=by
 rw[zaX];have h1:kLt a.key b.key=false:=by cases e:kLt a.key b.key with | false=>rfl | true=>simp[ahd,kEq,e] at h
 cases e:kLt b.key a.key with
 | true=>exact .inl rfl
 | false =>
  have hk:=zk5 h1 e;refine .inr ⟨hk.symm,?_⟩;simp[ahd,kEq,hk,zW] at h;simp[zz,kEq,hk] at k;omega
def cmpK(a b:ByteArray):Int:=if kLt a b=true then -1 else if kLt b a=true then 1 else 0
def cmpI(a b:Int):Int:=if a<b then -1 else if b<a then 1 else 0
def ordE(a b:Ent):Int:=if cmpK a.key b.key≠0 then cmpK a.key b.key else cmpI b.seq a.seq
theorem cmpK_neg(a b:ByteArray):cmpK a b<0↔kLt a b=true:=by unfold cmpK;split<;>(try split)<;>simp_all
theorem zfg(a b:ByteArray):cmpK a b=0↔a=b:=by
 unfold cmpK;constructor
 ·intro h;split at h
  ·omega
  ·split at h
   ·omega
   ·exact zk5 (by simp_all) (by simp_all)
 ·rintro rfl;simp[zW]
theorem zgu(a b:Ent):ordE a b<0↔ahd a b=true:=by
 rw[zaX];unfold ordE;by_cases h:cmpK a.key b.key=0
 ·rw[if_neg (by simp[h])];have hk:=(zfg _ _).1 h;rw[hk];unfold cmpI;split
  ·simp_all
  ·simp[zW];split<;>omega
 ·rw[if_pos h,cmpK_neg];have hk:a.key≠b.key:=fun e=>h ((zfg _ _).2 e)
  simp[hk]
theorem zds(a b:Ent):ordE a b=0↔zz a b=true:=by
 unfold ordE zz;by_cases h:cmpK a.key b.key=0
 ·rw[if_neg (by simp[h])];have hk:=(zfg _ _).1 h;simp only[hk,kEq,decide_true,Bool.true_and,decide_eq_true_eq];unfold cmpI;split
  ·omega
  ·split<;>omega
 ·rw[if_pos h];have hk:a.key≠b.key:=fun e=>h ((zfg _ _).2 e)
  simp[kEq,hk,h]
def okE(e:Ent):Bool:=decide (1≤e.key.size)&&decide (e.key.size≤40)&&decide (e.val.size≤200)&&(!e.gone||decide (e.val.size=0))&&decide (1≤e.seq)&&decide (e.seq≤1000000)
def okAt(es:List Ent)(i:Nat):Bool:=okE (nth es i)&&(decide (i=0)||ahd (nth es (i-1)) (nth es i))
def okTo(es:List Ent)(k:Nat):Bool:=(List.range k).all (okAt es)
def okL(es:List Ent):Bool:=decide (es.length≤300)&&okTo es es.length
theorem zeX(es:List Ent)(k:Nat):okTo es (k+1)=(okTo es k&&okAt es k):=by simp[okTo,List.range_succ]
theorem zls{es:List Ent}{k i:Nat}(h:okTo es k=true)(hi:i<k):okAt es i=true:=by
 rw[okTo,List.all_eq_true] at h;exact h i (List.mem_range.2 hi)
theorem okTo_no{es:List Ent}{k i:Nat}(hi:i<k)(h:okAt es i=false):okTo es k=false:=by
 cases e:okTo es k with
 | false=>rfl
 | true=>rw[zls e hi] at h;cases h
theorem zeB{es:List Ent}{i:Nat}(hi:i<es.length)(h:okAt es i=false):okL es=false:=by
 unfold okL;rw[okTo_no hi h];simp
theorem zZ{es:List Ent}(h:okL es=true):es.length≤300:=by simp[okL] at h;exact h.1
theorem okL_to{es:List Ent}(h:okL es=true):okTo es es.length=true:=by simp[okL] at h;exact h.2
theorem zpC{es:List Ent}(h:okL es=true){i:Nat}(hi:i<es.length):okE (nth es i)=true:=by
 have:=zls (okL_to h) hi;simp[okAt] at this;exact this.1
theorem zmn{es:List Ent}(h:okL es=true){i:Nat}(hi:i+1<es.length):ahd (nth es i) (nth es (i+1))=true:=by
 have:=zls (okL_to h) hi;simp[okAt] at this;simpa using this.2
theorem okL_lt{es:List Ent}(h:okL es=true):∀ (d i:Nat),i+d+1<es.length→ahd (nth es i) (nth es (i+d+1))=true
 | 0,i,hi=>zmn h hi
 | d+1,i,hi=>zaD (okL_lt h d i (by omega)) (zmn h hi)
theorem zbN{es:List Ent}(h:okL es=true){i j:Nat}(hij:i<j)(hj:j<es.length):ahd (nth es i) (nth es j)=true:=by
 obtain⟨d,rfl⟩:∃ d,j=i+d+1:=⟨j-i-1,by omega⟩;exact okL_lt h d i hj
theorem za0(es:List Ent):okL es=true↔es.length≤300∧(∀ e∈es,okE e=true)∧es.Pairwise (fun a b=>ahd a b=true):=by
 constructor
 ·intro h;refine⟨zZ h,fun e he=>?_,?_⟩
  ·obtain⟨i,hi,rfl⟩:=List.getElem_of_mem he;have:=zpC h hi;rwa [zE hi] at this
  ·rw[List.pairwise_iff_getElem];intro i j hi hj hij;have:=zbN h hij hj;rwa [zE hi,zE hj] at this
 ·rintro ⟨h1,h2,h3⟩;rw[List.pairwise_iff_getElem] at h3;simp only[okL,okTo,Bool.and_eq_true,decide_eq_true_eq,List.all_eq_true,List.mem_range];refine⟨h1,fun i hi=>?_⟩;simp only[okAt,Bool.and_eq_true,Bool.or_eq_true,decide_eq_true_eq];refine⟨by rw[zE hi];exact h2 _ (List.getElem_mem hi),?_⟩;by_cases h0:i=0
  ·exact .inl h0
  ·right
   rw[zE hi,zE (show i-1<es.length by omega)];exact h3 _ _ (by omega) hi (by omega)
def atE(es:List Ent)(t:Ent):Nat:=(es.takeWhile (fun a=>ahd a t)).length
theorem zjG(es:List Ent)(t:Ent):atE es t≤es.length:=by
 unfold atE;exact(List.takeWhile_sublist _).length_le
theorem tw_get(p:Ent→Bool):∀ (es:List Ent) (i:Nat),i<(es.takeWhile p).length→p (nth es i)=true
 | [],i,h=>by simp at h
 | a::r,i,h=>by
  rw[List.takeWhile_cons] at h;split at h
  ·rename_i ha;match i,h with
   | 0,_=>exact ha
   | i+1,h=>rw[zgw];exact tw_get p r i (by simpa using h)
  ·simp at h
theorem zle(p:Ent→Bool):∀ (es:List Ent),(es.takeWhile p).length<es.length→p (nth es ((es.takeWhile p).length))=false
 | [],h=>by simp at h
 | a::r,h=>by
  rw[List.takeWhile_cons] at h ⊢;split at h
  ·rename_i ha;rw[if_pos ha];rw[List.length_cons,zgw];exact zle p r (by simpa using h)
  ·rename_i ha;rw[if_neg ha];rw[List.length_nil,zbs];simpa using ha
theorem zj0(es:List Ent)(t:Ent){i:Nat}(h:i<atE es t):ahd (nth es i) t=true:=tw_get _ es i h
theorem ziq{es:List Ent}(hs:okL es=true)(t:Ent){i:Nat}(h:atE es t≤i)(hi:i<es.length):ahd (nth es i) t=false:=by
 have h0:=zle (fun a=>ahd a t) es (show atE es t<es.length by omega);change ahd (nth es (atE es t)) t=false at h0;by_cases he:atE es t=i
 ·rw[← he];exact h0
 ·cases e:ahd (nth es i) t with
  | false=>rfl
  | true=>rw[zaD (zbN hs (by omega) hi) e] at h0;cases h0
theorem zm6(es:List Ent)(t:Ent)(k:Nat)(hk:k≤es.length)(h1:∀ i,i<k→ahd (nth es i) t=true)(h2:k<es.length→ahd (nth es k) t=false):atE es t=k:=by
 have h3:=zjG es t;rcases Nat.lt_trichotomy (atE es t) k with h | h | h
 ·have:=zle (fun a=>ahd a t) es (show atE es t<es.length by omega);change ahd (nth es (atE es t)) t=false at this;rw[h1 _ h] at this;cases this
 ·exact h
 ·have:=zj0 es t h;rw[h2 (by omega)] at this;cases this
def insE(es:List Ent)(e:Ent):List Ent:=es.take (atE es e)++e::es.drop (atE es e)
def hasKS(es:List Ent)(e:Ent):Bool:=es.any (fun a=>zz a e)
def putOk(es:List Ent)(e:Ent):Bool:=okL es&&okE e && !decide (es.length=300) && !hasKS es e
def putL(es:List Ent)(e:Ent):List Ent:=if putOk es e=true then insE es e else []
theorem zek(es:List Ent)(e:Ent):(insE es e).length=es.length+1:=by
 have:=zjG es e;simp[insE];omega
theorem has_at{es:List Ent}(hs:okL es=true)(t:Ent):hasKS es t=(decide (atE es t<es.length)&&zz (nth es (atE es t)) t):=by
 rw[Bool.eq_iff_iff];simp only[hasKS,List.any_eq_true,Bool.and_eq_true,decide_eq_true_eq];constructor
 ·rintro ⟨a,ha,hk⟩;obtain⟨i,hi,rfl⟩:=List.getElem_of_mem ha;have hk':zz (nth es i) t=true:=by rw[zE hi];exact hk
  have hna:ahd (nth es i) t=false:=by
   simp[zz,kEq] at hk';simp[ahd,kEq,hk'.1,hk'.2,zW]
  have hle:atE es t≤i:=by
   rcases Nat.lt_or_ge i (atE es t) with h | h
   ·rw[zj0 es t h] at hna;cases hna
   ·exact h
  by_cases he:atE es t=i
  ·exact⟨by omega,by rw[he];exact hk'⟩
  ·exfalso;have h1:=zbN hs (show atE es t<i by omega) hi;have h2:=ziq hs t (Nat.le_refl _) (show atE es t<es.length by omega);have h3:ahd (nth es (atE es t)) t=ahd (nth es (atE es t)) (nth es i):=by
    simp[zz,kEq] at hk';simp[ahd,kEq,hk'.1,hk'.2]
   rw[h3,h1] at h2;cases h2
 ·rintro ⟨h1,h2⟩;exact⟨nth es (atE es t),by rw[zE h1];exact List.getElem_mem h1,h2⟩
theorem insE_ok{es:List Ent}{e:Ent}(h:putOk es e=true):okL (insE es e)=true:=by
 simp only[putOk,Bool.and_eq_true,Bool.not_eq_true',decide_eq_false_iff_not] at h;obtain⟨⟨⟨hs,he⟩,hn⟩,hh⟩:=h;have hl:=zZ hs;rw[za0];obtain⟨h1,h2,h3⟩:=(za0 es).1 hs;refine⟨by rw[zek];omega,?_,?_⟩
 ·intro a ha;simp only[insE,List.mem_append,List.mem_cons] at ha;rcases ha with ha | rfl | ha
  ·exact h2 a (List.mem_of_mem_take ha)
  ·exact he
  ·exact h2 a (List.mem_of_mem_drop ha)
 ·have hA:∀ a∈es.take (atE es e),ahd a e=true:=by
   intro a ha;obtain⟨i,hi,rfl⟩:=List.getElem_of_mem ha;rw[List.length_take] at hi;have:=zj0 es e (show i<atE es e by omega);rw[zE (by omega)] at this;rw[List.getElem_take];exact this
  have hB:∀ b∈es.drop (atE es e),ahd e b=true:=by
   intro b hb;obtain⟨i,hi,rfl⟩:=List.getElem_of_mem hb;rw[List.length_drop] at hi;rw[List.getElem_drop];have h4:=ziq hs e (show atE es e≤atE es e+i by omega) (by omega);rw[zE (by omega)] at h4;refine zlb h4 ?_;cases hk:zz (es[atE es e+i]'(by omega)) e with
   | false=>rfl
   | true =>
    have:hasKS es e=true:=by
     simp only[hasKS,List.any_eq_true];exact⟨_,List.getElem_mem (by omega),hk⟩
    rw[this] at hh;cases hh
  unfold insE;rw[List.pairwise_append];refine⟨h3.sublist (List.take_sublist _ _),?_,?_⟩
  ·rw[List.pairwise_cons];exact⟨hB,h3.sublist (List.drop_sublist _ _)⟩
  ·intro a ha b hb;rcases List.mem_cons.1 hb with rfl | hb
   ·exact hA a ha
   ·exact zaD (hA a ha) (hB b hb)
def seenP(k:ByteArray)(q:Int)(e:Ent):Bool:=kEq e.key k&&decide (e.seq≤q)
def seenL(es:List Ent)(k:ByteArray)(q:Int):Option Ent:=es.find? (seenP k q)
def zeroE:Ent:=⟨⟨#[]⟩,⟨#[]⟩,0,false⟩
theorem zfm(es:List Ent)(k:ByteArray)(q:Int)(i:Nat)(hi:i<es.length)(h1:∀ j,j<i→seenP k q (nth es j)=false)(h2:seenP k q (nth es i)=true):seenL es k q=some (nth es i):=by
 unfold seenL;rw[List.find?_eq_some_iff_getElem];refine⟨h2,i,hi,by rw[zE hi],fun j hj=>?_⟩;have:=h1 j hj;rw[zE (by omega)] at this;simp[this]
theorem zih(es:List Ent)(k:ByteArray)(q:Int)(h1:∀ j,j<es.length→seenP k q (nth es j)=false):seenL es k q=none:=by
 unfold seenL;rw[List.find?_eq_none];intro a ha;obtain⟨i,hi,rfl⟩:=List.getElem_of_mem ha;have:=h1 i hi;rw[zE hi] at this;simp[this]
theorem seen_at{es:List Ent}(hs:okL es=true)(k:ByteArray)(q:Int)(t:Ent)(hk:t.key=k)(hq:t.seq=q) :
 seenL es k q=if atE es t<es.length∧(nth es (atE es t)).key=k then some (nth es (atE es t)) else none:=by
 have hlo:∀ j,j<atE es t→seenP k q (nth es j)=false:=by
  intro j hj;have:=zj0 es t hj;rw[zaX,hk,hq] at this;rcases this with h | ⟨h,h'⟩
  ·have hne:(nth es j).key≠k:=fun e=>by rw[e,zW] at h;cases h
   simp[seenP,kEq,hne]
  ·simp[seenP,kEq];intro _;omega
 split
 ·rename_i h;refine zfm es k q _ h.1 hlo ?_;have h2:=ziq hs t (Nat.le_refl _) h.1;simp[ahd,kEq,hk,hq,h.2,zW] at h2;simp[seenP,kEq,h.2];omega
 ·rename_i h;refine zih es k q fun j hj=>?_
  rcases Nat.lt_or_ge j (atE es t) with h1 | h1
  ·exact hlo j h1
  ·have h2:=ziq hs t h1 hj;have hne:(nth es j).key≠k:=by
    intro e;apply h;refine⟨by omega,?_⟩;by_cases hje:atE es t=j
    ·rw[hje];exact e
    ·have h3:=zbN hs (show atE es t<j by omega) hj;have h4:=ziq hs t (Nat.le_refl _) (show atE es t<es.length by omega);rw[zaX] at h3;rcases h3 with h3 | h3
     ·rw[e,← hk] at h3;simp[ahd,kEq,h3] at h4
     ·rw[h3.1,e]
   simp[seenP,kEq,hne]
theorem zfz{es:List Ent}{k:ByteArray}{q:Int}{e:Ent}(h:seenL es k q=some e):e.key=k∧e.seq≤q:=by
 have:=List.find?_some h;simpa [seenP,kEq] using this
def zaa(es:List Ent)(q:Int)(i:Nat):Bool:=decide ((nth es i).seq≤q)&&(decide (i=0) || !kEq (nth es (i-1)).key (nth es i).key||decide (q<(nth es (i-1)).seq))
theorem znt{es:List Ent}(hs:okL es=true)(q:Int)(i:Nat)(hi:i<es.length):zaa es q i=decide (seenL es (nth es i).key q=some (nth es i)):=by
 rw[Bool.eq_iff_iff,decide_eq_true_eq];constructor
 ·intro h;simp only[zaa,kEq,Bool.and_eq_true,Bool.or_eq_true,decide_eq_true_eq,Bool.not_eq_true',decide_eq_false_iff_not] at h;refine zfm es _ q i hi (fun j hj=>?_) (by simp[seenP,kEq,h.1]);have h1:=zbN hs hj hi;rw[zaX] at h1;rcases h1 with h1 | h1
  ·have hne:(nth es j).key≠(nth es i).key:=fun e=>by rw[e,zW] at h1;cases h1
   simp[seenP,kEq,hne]
  ·have hi1:i≠0:=by omega
   have h2:(nth es (i-1)).key=(nth es i).key∧(nth es (i-1)).seq≤(nth es j).seq:=by
    by_cases hj1:j=i-1
    ·subst hj1;exact⟨h1.1,Int.le_refl _⟩
    ·have h3:=zbN hs (show j<i-1 by omega) (by omega);have h4:=zbN hs (show i-1<i by omega) hi;rw[zaX] at h3 h4;rcases h3 with h3 | h3
     ·rcases h4 with h4 | h4
      ·have:=zgL h3 h4;rw[h1.1,zW] at this;cases this
      ·rw[h4.1,h1.1,zW] at h3;cases h3
     ·exact⟨h3.1.symm.trans h1.1,by omega⟩
   rcases h.2 with (h5 | h5) | h5
   ·exact absurd h5 hi1
   ·exact absurd h2.1 h5
   ·simp[seenP,kEq];intro _;omega
 ·intro h;have h0:=zfz h;simp only[zaa,kEq,Bool.and_eq_true,Bool.or_eq_true,decide_eq_true_eq,Bool.not_eq_true',decide_eq_false_iff_not];refine⟨h0.2,?_⟩;by_cases hi1:i=0
  ·exact .inl (.inl hi1)
  by_cases hk:(nth es (i-1)).key=(nth es i).key
  ·right
   rcases Int.lt_or_le q (nth es (i-1)).seq with h1 | h1
   ·exact h1
   ·exfalso;unfold seenL at h;rw[List.find?_eq_some_iff_getElem] at h;obtain⟨_,k,hk1,hk2,hk3⟩:=h;rcases Nat.lt_trichotomy k i with h2 | h2 | h2
    ·have h3:=zbN hs h2 hi;rw[zE hk1,hk2,za3] at h3;cases h3
    ·have h3:=hk3 (i-1) (by omega);rw[← zE (show i-1<es.length by omega)] at h3;simp[seenP,kEq,hk] at h3;omega
    ·have h3:=zbN hs h2 hk1;rw[zE hk1,hk2,za3] at h3;cases h3
  ·exact .inl (.inr hk)
end Go.Proofs.YtannfbpohhnnkaaGreatDoor
