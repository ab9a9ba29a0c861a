import Derived.Test.YtannfbpohhnnkaaGreatDoorG35
import Derived.Lib.ItoaNum
import Derived.Lib.ItoaLen
import Derived.Lib.AppendIntMem
import Derived.ScopeJumps
import Derived.WalkMore
namespace Go.Proofs.YtannfbpohhnnkaaGreatDoor
set_option maxHeartbeats 16000000
set_option maxRecDepth 100000
open Go.RowKit
abbrev oneT:ByteArray:=⟨#[49]⟩
abbrev nilT:ByteArray:=⟨#[48]⟩
def flT(b:Bool):ByteArray:=if b=true then oneT else nilT
def trio(x:Wri):List ByteArray:=[x.key,x.val,flT x.gone]
def batTx(xs:List Wri):List ByteArray:=xs.flatMap trio
def batT(xs:List Wri):ByteArray:=⟨(zac (batTx xs)).toArray⟩
def batS(xs:List Wri):ByteArray:=if zC xs=true∧xs≠[] then batT xs else ⟨#[]⟩
theorem zco(x:Wri)(xs:List Wri):batTx (x::xs)=x.key::x.val::flT x.gone::batTx xs:=rfl
theorem zkr(a b:List Wri):batTx (a++b)=batTx a++batTx b:=by simp[batTx]
theorem zbK:∀ xs:List Wri,(batTx xs).length=3*xs.length
 | []=>rfl
 | x::xs=>by rw[zco];simp only[List.length_cons];rw[zbK xs];omega
theorem zix{xs:List Wri}{k:Nat}(h:k<xs.length):batTx (xs.take (k+1))=batTx (xs.take k)++trio (nthW xs k):=by
 rw[List.take_succ_eq_append_getElem h,zkr,zdE h];simp[batTx]
theorem batchOk_iff{xs:List Wri}:zC xs=true↔xs.length≤20∧∀ x∈xs,wriOk x=true:=by
 unfold zC;rw[Bool.and_eq_true,decide_eq_true_eq,List.all_eq_true]
theorem zif{x:Wri}(h:wriOk x=true):x.key.size≤40∧x.val.size≤200:=by
 unfold wriOk okE at h;simp only[wriE,Bool.and_eq_true] at h;obtain⟨⟨⟨⟨⟨h1,h2⟩,h3⟩,h4⟩,h5⟩,h6⟩:=h;exact⟨of_decide_eq_true h2,of_decide_eq_true h3⟩
theorem flT_size(b:Bool):(flT b).size=1:=by cases b<;>rfl
theorem zer{xs:List Wri}(h:∀ x∈xs,x.key.size≤3000∧x.val.size≤3000):∀ s∈batTx xs,s.size≤3000:=by
 intro s hs;obtain⟨x,hx,hs⟩:=List.mem_flatMap.1 hs;have h1:=h x hx;have h2:=flT_size x.gone;simp only[trio,List.mem_cons,List.not_mem_nil,or_false] at hs;rcases hs with rfl | rfl | rfl<;>omega
theorem ziQ{xs:List Wri}(h:zC xs=true):∀ x∈xs,x.key.size≤3000∧x.val.size≤3000:=fun x hx=>by
 have:=zif ((batchOk_iff.1 h).2 x hx);omega
theorem zpi{xs:List Wri}(h:zC xs=true):zac (batTx xs)≠[]:=by
 have h1:=(batchOk_iff.1 h).1;rw[zcI _ (by rw[zbK];omega) (zer (ziQ h))];intro e;have:=zmL (batTx xs).length;simp_all
theorem zdJ(xs:List Wri):(batT xs).data.toList=zac (batTx xs):=by unfold batT;simp
theorem ziD{a b:ByteArray}(h:a.data.toList=b.data.toList):a=b:=by
 cases a;cases b;simp_all
theorem zd6{xs:List Wri}(h:zC xs=true)(hn:xs≠[]):batS xs=batT xs:=by unfold batS;rw[if_pos ⟨h,hn⟩]
theorem zfy{xs:List Wri}(h:¬ (zC xs=true∧xs≠[])):batS xs=⟨#[]⟩:=by unfold batS;rw[if_neg h]
def RB(s:ByteArray)(F:List Wri×Bool):Prop:=(F.2=true∧zC F.1=true∧F.1≠[]∧batT F.1=s)∨(F=([],false)∧∀ xs,zC xs=true→xs≠[]→batT xs≠s)
theorem rb_ex(s:ByteArray):∃ F,RB s F:=by
 by_cases h:∃ xs,zC xs=true∧xs≠[]∧batT xs=s
 ·obtain⟨xs,h⟩:=h;exact⟨(xs,true),.inl ⟨rfl,h⟩⟩
 ·exact⟨([],false),.inr ⟨rfl,fun xs h1 h2 h3=>h ⟨xs,h1,h2,h3⟩⟩⟩
theorem rb_fin{xs:List Wri}(h:zC xs=true):fin (batT xs).data.toList (rdAll (batT xs).data.toList)=(batTx xs,true):=by
 rw[zdJ];exact zph _ (zpi h)
theorem rb_small{s:ByteArray}{F:List Wri×Bool}(h:RB s F):F.1.length≤20∧∀ x∈F.1,x.key.size≤40∧x.val.size≤200:=by
 rcases h with ⟨_,h2,_,_⟩ | ⟨h1,_⟩
 ·have:=batchOk_iff.1 h2;exact⟨this.1,fun x hx=>zif (this.2 x hx)⟩
 ·rw[h1];exact⟨Nat.zero_le _,fun x hx=>by cases hx⟩
def grp:List ByteArray→List Wri
 | a::b::c::r=>⟨a,b,c.toList == [49]⟩::grp r
 | _=>[]
theorem flT_t:flT true=oneT:=rfl
theorem flT_f:flT false=nilT:=rfl
theorem nil_one:nilT≠oneT:=fun h=>absurd (congrArg (fun t:ByteArray=>t.data.toList) h) (by decide)
theorem zce(b:ByteArray):b.toList=b.data.toList:=ByteArray.toList_eq b
theorem fl_one(b:Bool):((flT b).toList == [49])=b:=by
 rw[zce];cases b<;>rfl
theorem zp9:∀ xs:List Wri,grp (batTx xs)=xs
 | []=>rfl
 | x::xs=>by
  rw[zco,grp,zp9 xs,fl_one]
theorem grp_at{ss:List ByteArray}{p:Nat}(h:p+3≤ss.length):grp (ss.drop p)=⟨ss[p],ss[p+1],ss[p+2].toList == [49]⟩::grp (ss.drop (p+3)):=by
 rw[List.drop_eq_getElem_cons (show p<ss.length by omega),List.drop_eq_getElem_cons (show p+1<ss.length by omega),List.drop_eq_getElem_cons (show p+1+1<ss.length by omega),grp]
theorem grp_end{ss:List ByteArray}{p:Nat}(h:ss.length≤p):grp (ss.drop p)=[]:=by
 rw[List.drop_eq_nil_of_le h,grp]
 ·intros;simp_all
def wrs:List ByteArray→Option (List Wri)
 | []=>some []
 | a::b::c::r=>if c=oneT then (wrs r).map fun l=>⟨a,b,true⟩::l else if c=nilT then (wrs r).map fun l=>⟨a,b,false⟩::l else none
 | _=>none
theorem zpf:∀ xs:List Wri,wrs (batTx xs)=some xs
 | []=>rfl
 | x::xs=>by
  rw[zco,wrs,zpf xs];obtain⟨a,b,c⟩:=x;cases c
  ·rw[flT_f,if_neg nil_one,if_pos rfl];rfl
  ·rw[flT_t,if_pos rfl];rfl
theorem zgo:∀ (n:Nat) (ss:List ByteArray) (xs:List Wri),ss.length≤n→wrs ss=some xs→ss=batTx xs
 | _,[],xs,_,h=>by
  rw[wrs] at h;cases h
  rfl
 | n+1,a::b::c::r,xs,hl,h=>by
  rw[wrs] at h;simp only[List.length_cons] at hl;split at h
  ·rename_i hc;cases hr:wrs r with
   | none=>rw[hr] at h;cases h
   | some l =>
    rw[hr] at h;cases h
    rw[zco,← zgo n r l (by omega) hr,hc];rfl
  ·split at h
   ·rename_i hc;cases hr:wrs r with
    | none=>rw[hr] at h;cases h
    | some l =>
     rw[hr] at h;cases h
     rw[zco,← zgo n r l (by omega) hr,hc];rfl
   ·cases h
 | _,[_],xs,_,h=>by cases h
 | _,[_,_],xs,_,h=>by cases h
 | 0,a::b::c::r,xs,hl,_=>by simp at hl
theorem rb_spec{s:ByteArray}{F:List Wri×Bool}(h:RB s F){ss:List ByteArray}{ok:Bool}(hf:fin s.data.toList (rdAll s.data.toList)=(ss,ok)) :
 (F.2=true∧ok=true∧ss.length % 3=0∧grp ss=F.1∧batS F.1=s∧0<s.size)∨(F=([],false)∧(batS (grp ss)≠s∨s.size=0)):=by
 rcases h with ⟨h1,h2,h3,h4⟩ | ⟨h1,h2⟩
 ·left
  rw[← h4,rb_fin h2] at hf;obtain⟨rfl,rfl⟩:=Prod.mk.inj hf;refine⟨h1,rfl,by rw[zbK];omega,zp9 _,by rw[zd6 h2 h3,h4],?_⟩;rw[← h4,← ze,zdJ];exact List.length_pos_iff.2 (zpi h2)
 ·right
  refine⟨h1,?_⟩;by_cases hb:zC (grp ss)=true∧grp ss≠[]
  ·left
   rw[zd6 hb.1 hb.2];exact h2 _ hb.1 hb.2
  ·rw[zfy hb];by_cases hs:s.size=0
   ·exact .inr hs
   ·left
    intro e;rw[← e] at hs;exact hs rfl
theorem rb_impl{s:ByteArray}{F:List Wri×Bool}(h:RB s F){ss:List ByteArray}{ok:Bool}(hf:fin s.data.toList (rdAll s.data.toList)=(ss,ok)) :
 (F=((wrs ss).getD [],true)∧0<(batS ((wrs ss).getD [])).size)∨(F=([],false)∧(batS ((wrs ss).getD [])).size=0):=by
 rcases h with ⟨h1,h2,h3,h4⟩ | ⟨h1,h2⟩
 ·left
  rw[← h4,rb_fin h2] at hf;obtain⟨rfl,rfl⟩:=Prod.mk.inj hf;rw[zpf];refine⟨by obtain⟨f,fb⟩:=F;obtain rfl:fb=true:=h1;rfl,?_⟩;show 0<(batS F.1).size;rw[zd6 h2 h3,← ze,zdJ];exact List.length_pos_iff.2 (zpi h2)
 ·right
  refine⟨h1,?_⟩;by_cases hb:zC ((wrs ss).getD [])=true∧(wrs ss).getD []≠[]
  ·exfalso;cases hw:wrs ss with
   | none=>rw[hw] at hb;exact hb.2 rfl
   | some l =>
    rw[hw] at hb;have e:=zgo _ ss l (Nat.le_refl _) hw;cases ok with
    | false =>
     have:=fin_no _ _ hf;rw[this] at e;have e2:=congrArg List.length e;rw[zbK] at e2;exact hb.2 (List.length_eq_zero_iff.1 (by show l.length=0;simp at e2;omega))
    | true =>
     have e2:=zmt _ _ hf;rw[e] at e2;exact h2 l hb.1 hb.2 (ziD (by rw[zdJ];exact e2))
  ·rw[zfy hb];rfl
open Go.RowKit
def itoaS(n:Int):ByteArray:=⟨(Lib.itoa n).toArray⟩
def left(u:Nat):List UInt8:=if u=0 then [] else Lib.decDigits u
theorem zaM(u:Nat):Lib.decDigits u=left (u / 10)++[UInt8.ofNat (48+u % 10)]:=by
 unfold left;by_cases h:u<10
 ·rw[if_pos (by omega),Lib.decDigits,dif_pos h,Nat.mod_eq_of_lt h];rfl
 ·rw[if_neg (by omega),Lib.decDigits,dif_neg h]
def sizeV:Value→Nat
 | .string s=>s.size
 | _=>0
theorem zoy(u:Nat)(h:0<u):left u=left (u / 10)++[UInt8.ofNat (48+u % 10)]:=by
 rw[← zaM,left,if_neg (by omega)]
theorem zqF(n:Nat)(h:n≤9223372036854775808):(Lib.decDigits n).length≤21:=by
 by_cases h0:n=0
 ·subst h0;rw[Lib.decDigits_length,Lib.nDigits_small (by omega)];omega
 ·have:=Lib.itoa_length_le (-(n:Int)) (by omega) (by omega);rw[Lib.itoa_neg n (by omega),List.length_cons] at this;omega
def todo(u:Nat)(ys:List UInt8):List UInt8:=if ys=[] then Lib.decDigits u else left u++ys
theorem zjQ(u:Nat)(ys:List UInt8)(h:ys=[]∨0<u):todo u ys=left (u / 10)++(UInt8.ofNat (48+u % 10)::ys):=by
 unfold todo;by_cases hy:ys=[]
 ·rw[if_pos hy,zaM,hy]
 ·rw[if_neg hy,zoy u (by rcases h with h | h;exact absurd h hy;exact h),List.append_assoc];rfl
theorem zmF(u:Nat)(ys:List UInt8):ys.length≤(todo u ys).length:=by
 unfold todo;by_cases hy:ys=[]
 ·rw[if_pos hy,hy];simp
 ·rw[if_neg hy,List.length_append];omega
theorem zq3(n:Nat)(w:World)(h1:n≤9223372036854775807) :
 Calls Tryz.prog 107 #[.int .i64 n] w fun e w'=>e=.returned (.string ⟨(Lib.decDigits n).toArray⟩)∧Below w.heap.size w w':=by
 have hL:=zqF n (by omega);generalize hR:Lib.decDigits n=R at hL;have HR:Hid (Lib.decDigits n=R):=hR;clear hR;go_enter Tryz.func107,Tryz.ntmps107
 go_wp2;go_loopw [0,3,5] (fun nn v _ wr=>∃ (u:Nat) (ys:List UInt8),nn=.int .i64 u∧u≤9223372036854775807∧v=.string ⟨ys.toArray⟩∧Hid (todo u ys=R)∧Below w.heap.size w wr) (fun nn v _ _=>2*(intOf nn).toNat+(1-sizeV v))
 case atStart=>exact⟨n,[],rfl,h1,rfl,HR.out,Below.refl _ _⟩
 case round =>
  obtain⟨u,ys,rfl,hu,rfl,he,hb⟩:=hrel;have hs:=hb.size;have hyl:=zmF u ys;rw[he.out] at hyl;have hcv:=ziZ wr (UInt8.ofNat (48+u % 10)) (48+(u:Int) % 10) (zgA u);by_cases hgo:ys=[]∨0<u
  ·have hstep:=zjQ u ys hgo;generalize hd:UInt8.ofNat (48+u % 10)=d at hcv hstep;have hadd:∀ w',(Op.stringOp .add ⟨#[d]⟩ ⟨ys.toArray⟩).run Tryz.prog w'=.ok (.string ⟨(d::ys).toArray⟩) w':=fun w'=>run_string_add_lists w' [d] ys (by simp) (by omega)
   have HE:Hid (todo (u / 10) (d::ys)=R):=by
    show _=_;rw[← he.out,hstep];unfold todo;rw[if_neg (by simp)]
   have R2:Below w.heap.size w (wr.alloc (.cells #[.int .u8 (48+(u:Int) % 10)] 5)):=hb.alloc hs _;clear hd he hb hstep HR hL hyl;by_cases hy:ys=[]
   ·subst hy;go_wp2;go_roundw
    case rel=>exact⟨u / 10,[d],by go_num,by omega,rfl,HE,R2⟩
    case measure=>simp[intOf,sizeV,ByteArray.size];omega
   ·have hie:ys.isEmpty=false:=by simpa using hy
    have hu0:((u:Int) != 0)=true:=by simp;rcases hgo with h | h;exact absurd h hy;omega
    have hu1:0<u:=by rcases hgo with h | h;exact absurd h hy;exact h
    clear hgo;go_wp2;go_roundw
    case rel=>exact⟨u / 10,d::ys,by go_num,by omega,by simp,HE,R2⟩
    case measure=>simp[intOf,sizeV,ByteArray.size];omega
  ·have hy:ys≠[]:=fun h=>hgo (.inl h)
   have hu1:u=0:=by omega
   subst hu1;have hie:ys.isEmpty=false:=by simpa using hy
   have hu0:(((0:Nat):Int) != 0)=false:=by simp
   have HE:Hid (ys=R):=by
    show _=_;rw[← he.out];unfold todo left;rw[if_neg hy];simp
   clear he hgo hcv;go_wp2;go_ret;exact⟨by rw[HE.out];rfl,hb⟩
theorem zqh(n:Nat)(w:World)(h0:0<n)(h1:n≤9223372036854775808) :
 Calls Tryz.prog 107 #[.int .i64 (-(n:Int))] w fun e w'=>e=.returned (.string ⟨(45::Lib.decDigits n).toArray⟩)∧Below w.heap.size w w':=by
 have hL:=zqF n (by omega);generalize hR:Lib.decDigits n=R at hL;have HR:Hid (Lib.decDigits n=R):=hR;clear hR;go_enter Tryz.func107,Tryz.ntmps107
 go_wp2;go_loopw [0,3,5] (fun nn v _ wr=>∃ (u:Nat) (ys:List UInt8),nn=.int .i64 (-(u:Int))∧u≤9223372036854775808∧v=.string ⟨ys.toArray⟩∧Hid (todo u ys=R)∧Below w.heap.size w wr) (fun nn v _ _=>2*(intOf nn).natAbs+(1-sizeV v))
 case atStart=>exact⟨n,[],rfl,h1,rfl,HR.out,Below.refl _ _⟩
 case round =>
  obtain⟨u,ys,rfl,hu,rfl,he,hb⟩:=hrel;have hs:=hb.size;have hyl:=zmF u ys;rw[he.out] at hyl;obtain⟨x,hx,hxz⟩:∃ x:Int,((UInt8.ofNat (48+u % 10)).toNat:Int)=x∧x=(if 0<(u:Int) % 10 then 48+(u:Int) % 10 else 48+-((u:Int) % 10)):=by
   refine⟨_,rfl,?_⟩;rw[zgA];split<;>omega
  have hcv:=ziZ wr (UInt8.ofNat (48+u % 10)) x hx;by_cases hgo:ys=[]∨0<u
  ·have hstep:=zjQ u ys hgo;generalize hd:UInt8.ofNat (48+u % 10)=d at hcv hstep;have hadd:∀ w',(Op.stringOp .add ⟨#[d]⟩ ⟨ys.toArray⟩).run Tryz.prog w'=.ok (.string ⟨(d::ys).toArray⟩) w':=fun w'=>run_string_add_lists w' [d] ys (by simp) (by omega)
   have HE:Hid (todo (u / 10) (d::ys)=R):=by
    show _=_;rw[← he.out,hstep];unfold todo;rw[if_neg (by simp)]
   have R2:Below w.heap.size w (wr.alloc (.cells #[.int .u8 x] 5)):=hb.alloc hs _;clear hd he hb hstep HR hL hyl hx;by_cases hz:0<(u:Int) % 10
   ·rw[if_pos hz] at hxz;subst hxz;by_cases hy:ys=[]
    ·subst hy;go_wp2;go_roundw
     case rel=>exact⟨u / 10,[d],by go_num,by omega,rfl,HE,R2⟩
     case measure=>simp[intOf,sizeV,ByteArray.size];omega
    ·have hie:ys.isEmpty=false:=by simpa using hy
     have hu0:((-(u:Int)) != 0)=true:=by simp;rcases hgo with h | h;exact absurd h hy;omega
     have hu1:0<u:=by rcases hgo with h | h;exact absurd h hy;exact h
     clear hgo;go_wp2;go_roundw
     case rel=>exact⟨u / 10,d::ys,by go_num,by omega,by simp,HE,R2⟩
     case measure=>simp[intOf,sizeV,ByteArray.size];omega
   ·rw[if_neg hz] at hxz;subst hxz;by_cases hy:ys=[]
    ·subst hy;go_wp2;go_roundw
     case rel=>exact⟨u / 10,[d],by go_num,by omega,rfl,HE,R2⟩
     case measure=>simp[intOf,sizeV,ByteArray.size];omega
    ·have hie:ys.isEmpty=false:=by simpa using hy
     have hu0:((-(u:Int)) != 0)=true:=by simp;rcases hgo with h | h;exact absurd h hy;omega
     have hu1:0<u:=by rcases hgo with h | h;exact absurd h hy;exact h
     clear hgo;go_wp2;go_roundw
     case rel=>exact⟨u / 10,d::ys,by go_num,by omega,by simp,HE,R2⟩
     case measure=>simp[intOf,sizeV,ByteArray.size];omega
  ·have hy:ys≠[]:=fun h=>hgo (.inl h)
   have hu1:u=0:=by omega
   subst hu1;have hie:ys.isEmpty=false:=by simpa using hy
   have hu0:((-((0:Nat):Int)) != 0)=false:=by simp
   have hadd:∀ w',(Op.stringOp .add ⟨#[45]⟩ ⟨ys.toArray⟩).run Tryz.prog w'=.ok (.string ⟨((45:UInt8)::ys).toArray⟩) w':=fun w'=>run_string_add_lists w' [45] ys (by simp) (by omega)
   have HE:Hid (ys=R):=by
    show _=_;rw[← he.out];unfold todo left;rw[if_neg hy];simp
   clear he hgo hcv hx hxz;go_wp2;go_ret;exact⟨by rw[HE.out];rfl,hb⟩
theorem zgT(n:Int)(w:World)(h0 : -9223372036854775808≤n)(h1:n≤9223372036854775807) :
 Calls Tryz.prog 107 #[.int .i64 n] w fun e w'=>e=.returned (.string (itoaS n))∧Below w.heap.size w w':=by
 by_cases hn:n<0
 ·obtain⟨u,rfl⟩:∃ u:Nat,n = -(u:Int):=⟨n.natAbs,by omega⟩;refine(zqh u w (by omega) (by omega)).mono ?_;rintro e w' ⟨rfl,hb⟩;exact⟨by unfold itoaS;rw[Lib.itoa_neg u (by omega)],hb⟩
 ·obtain⟨u,rfl⟩:=Int.eq_ofNat_of_zero_le (show 0≤n by omega);refine(zq3 u w (by omega)).mono ?_;rintro e w' ⟨rfl,hb⟩;exact⟨by unfold itoaS;rw[Lib.itoa_nonneg],hb⟩
open Go.RowKit
theorem zp0(b:Bool):itoaS (if b=true then 1 else 0)=flT b:=by
 cases b
 ·show itoaS 0=nilT;unfold itoaS Lib.itoa;rw[if_neg (by omega),show Int.toNat 0=0 from rfl,zaM];rfl
 ·show itoaS 1=oneT;unfold itoaS Lib.itoa;rw[if_neg (by omega),show Int.toNat 1=1 from rfl,zaM];rfl
theorem tri_rd(w:World)(a b c:ByteArray):RdS (w.alloc (.cells #[.string a,.string b,.string c] 9)) (.slice (some ⟨w.heap.size,0,none⟩) 3 3) [a,b,c]:=by
 refine⟨_,_,rfl,by simp,by unfold maxLen;omega,.inr ⟨w.heap.size,0,rfl,fun i hi=>?_⟩⟩;have h3:i<3:=hi;match i,h3 with
 | 0,_=>simp
 | 1,_=>simp
 | 2,_=>simp
theorem zgU(b:Nat)(n c:Nat):NilOk (.slice (some ⟨b,0,none⟩) n c):=by intro n c e;cases e
theorem zj6(v:Value)(xs:List Wri)(w:World)(hr:RdW w v xs)(hk:zC xs=true) :
 Calls Tryz.prog 124 #[v] w fun e w'=>e=.returned (.string (batT xs))∧Below w.heap.size w w':=by
 have hlen:=(batchOk_iff.1 hk).1;have HSM:Hid (∀ s∈batTx xs,s.size≤1048576):=fun s hs=>by have:=zer (ziQ hk) s hs;omega
 obtain⟨a,cap,hv,hl,hm,_⟩:=id hr;unfold maxLen at hm;obtain⟨n,hn⟩:∃ n,n=xs.length:=⟨_,rfl⟩;rw[← hn] at hv hl hlen;have HN:Hid (n=xs.length):=hn;subst hv;have HLN:Hid (∀ k,(batTx (xs.take k)).length≤3*n):=fun k=>by rw[zbK,List.length_take,HN.out];omega
 have HT:Hid (batT xs=⟨(zac (batTx xs)).toArray⟩):=rfl;have o0:=zR w;have b0:=za w (.cells #[] 9);clear hn hk;go_enter Tryz.func124,Tryz.ntmps124
 go_wp2;go_loopw [3,4] (fun oo ii wr=>∃ k:Nat,k≤n∧ii=.int .i64 k∧OwnS wr w.heap.size oo (batTx (xs.take k))∧Below w.heap.size w wr) (fun _ ii _=>n-(intOf ii).toNat)
 case atStart=>exact⟨0,Nat.zero_le _,rfl,o0,b0⟩
 case round =>
  clear o0 b0;obtain⟨k,hk,rfl,ho,hb⟩:=hrel;by_cases hlt:k<n
  ·have hkl:k<xs.length:=by rw[← HN.out];exact hlt
   have hkc:k<cap:=by omega
   obtain⟨b,off,rfl,hc0⟩:=hr.at HN.out k hkl;have HM:Hid (batTx (xs.take (k+1))=batTx (xs.take k)++trio (nthW xs k)):=zix hkl;have hyl:=HLN.out k;generalize nthW xs k=x at hc0 HM;have hc:=hc0.below hb;generalize batTx (xs.take k)=ys at ho HM hyl;have c1:(0:Int)≤(k:Int):=by omega
   have c2:(k:Int)<(n:Int):=by omega
   clear hkl;go_wp2_with fail
   refine wp_region_noPanic ?_;refine wp_region_held_drew (S:=fun w'=>w'.cell? ⟨b,off+k*3,none⟩=some (.string x.key)∧w'.cell? ⟨b,off+k*3+1,none⟩=some (.string x.val)∧w'.cell? ⟨b,off+k*3+2,none⟩=some (.bool x.gone)) (by kernel_rfl) hc (fun hH=>?_);have qo:OwnS wr.drew _ _ ys:=ho.drewN 1;have qb:=hb.drew;clear ho hb hc;revert hH qo qb;generalize wr.drew=W0;intro hH qo qb;refine kG 0 12 hH ?_;refine kG 1 13 hH ?_;refine kG 2 14 hH ?_;refine kG 3 15 hH ?_;refine kG 4 16 hH ?_;refine kG 5 17 hH ?_;refine kG 6 18 hH ?_;refine kG 7 19 hH ?_;refine kG 8 20 hH ?_;refine kG 9 21 hH ?_;refine kG 10 22 hH ?_;refine kG 11 23 hH ?_;refine kG 12 24 hH ?_;refine kG 13 25 hH ?_;refine kG 14 26 hH ?_;refine kG 15 27 hH ?_;refine rdy 16 (fun K hK=>?_);go_simp;refine(zfI _ _).mono ?_;rintro e w1 ⟨rfl,hw1⟩;obtain rfl:=hw1.symm;refine hK.out _ _ hH (fun hA=>?_);clear hK K;try simp only[Act.put,sA,sZ,sS]
   refine rdy 17 (fun K hK=>?_);go_simp;refine(zgT _ _ (by split<;>omega) (by split<;>omega)).mono ?_;rw[zp0];rintro e w2 ⟨rfl,b2⟩;have s0:=qb.size;replace qo:=qo.below b2;replace qb:=qb.trans (b2.mono s0);refine hK.out _ _ (WriAt.below (e:=x) hH b2) (fun hB=>?_);clear hK K;try simp only[Act.put,sA,sZ,sS]
   have hr3:=tri_rd w2 x.key x.val (flT x.gone);have o3:=qo.below (za w2 (.cells #[.string x.key,.string x.val,.string (flT x.gone)] 9));have b3:=qb.trans ((za w2 (.cells #[.string x.key,.string x.val,.string (flT x.gone)] 9)).mono qb.size);have hB2:=WriAt.below (e:=x) hB (za w2 (.cells #[.string x.key,.string x.val,.string (flT x.gone)] 9));refine rdy 18 (fun K hK=>?_);go_simp;refine hK.out _ _ hB2 (fun hC=>?_);clear hK K;try simp only[Act.put,sA,sZ,sS]
   generalize w2.alloc (.cells #[.string x.key,.string x.val,.string (flT x.gone)] 9)=W3 at hr3 o3 b3 hB2 hC ⊢;refine rdy 19 (fun K hK=>?_);refine zgd rfl 31 rfl _ _ rfl w.heap.size _ _ ys [x.key,x.val,flT x.gone] rfl rfl o3 hr3 (zgU _ _ _) (by simp;omega) b3.size ?_;intro v4 w4 ho4 hg4;have b4:Below w.heap.size w w4:=b3.grown hg4 b3.size (fun k hk=>(World.ownsRow.lt o3 k hk).1);have hc4:=hc0.below b4;refine hK.out _ _ hc4 (fun hD=>?_);clear hK K;try simp only[Act.put,sA,sZ,sS]
   refine kG 20 3 hD ?_;refine dne ?_;clear hH hA hB hB2 hC hD hg4 o3 hr3 b3 qo qb b2 hc4 hc0;have e5:Hid (ys++[x.key,x.val,flT x.gone]=batTx (xs.take (k+1))):=HM.out.symm;rw[e5.out] at ho4;go_wp2;go_roundw
   case rel=>exact⟨k+1,by omega,by go_num,ho4,b4⟩
   case measure=>simp[intOf];omega
  ·have hke:k=n:=by omega
   have HE:Hid (batTx (xs.take k)=batTx xs):=by unfold Hid;rw[hke,HN.out,List.take_length]
   rw[HE.out] at ho;clear hke;go_wp2_with fail
   refine(ziy _ (batTx xs) _ ho.rd HSM.out).mono ?_;rintro e w1 ⟨u,rfl,ho1,hb1⟩;have hb2:=hb.trans (hb1.mono hb.size);have hcv:=zdN ho1;rw[← HT.out] at hcv;clear ho hb hb1;obtain⟨au,cu,hu⟩:=ho1.rd.shape;subst hu;go_wp2;go_ret;exact⟨rfl,hb2⟩
theorem zjg(v:Value)(xs:List Wri)(w:World)(hr:RdW w v xs)(hf:∀ x∈xs,FitsW x) :
 Calls Tryz.prog 86 #[v] w fun e w'=>e=.returned (.string (batS xs))∧Below w.heap.size w w':=by
 have HL:Hid (Calls Tryz.prog 123 #[v] w fun e w'=>e=.returned (.bool (zC xs))∧Below w.heap.size w w'):=zhK v xs w hr hf;have HB:Hid (zC xs=true→∀ W,Below w.heap.size w W→Calls Tryz.prog 124 #[v] W fun e w'=>e=.returned (.string (batT xs))∧Below W.heap.size W w'):=fun h W hb=>zj6 v xs W (hr.below hb) h
 obtain⟨a,cap,hv,hl,hm,_⟩:=id hr;unfold maxLen at hm;obtain⟨n,hn⟩:∃ n,n=xs.length:=⟨_,rfl⟩;rw[← hn] at hv hl;have HN:Hid (n=xs.length):=hn;subst hv;clear hn hr hf;cases hk:zC xs with
 | false =>
  have END:Hid (batS xs=⟨#[]⟩):=zfy (fun h=>by rw[hk] at h;cases h.1);rw[hk] at HL;clear HB;go_enter Tryz.func86,Tryz.ntmps86
  go_wp2_with fail
  refine HL.out.mono ?_;rintro e w1 ⟨rfl,b1⟩;go_wp2;go_ret;exact⟨by rw[END.out];rfl,b1⟩
 | true =>
  rw[hk] at HL;by_cases hz:n=0
  ·have END:Hid (batS xs=⟨#[]⟩):=zfy (fun h=>h.2 (List.length_eq_zero_iff.1 (by rw[← HN.out];exact hz)));subst hz;clear HB;go_enter Tryz.func86,Tryz.ntmps86
   go_wp2_with fail
   refine HL.out.mono ?_;rintro e w1 ⟨rfl,b1⟩;go_wp2;go_ret;exact⟨by rw[END.out];rfl,b1⟩
  ·have END:Hid (batS xs=batT xs):=zd6 hk (fun h=>hz (by rw[HN.out,h];rfl));have HB2:Hid (∀ W,Below w.heap.size w W→Calls Tryz.prog 124 _ W fun e w'=>e=.returned (.string (batT xs))∧Below W.heap.size W w'):=HB.out hk;have hq:((n:Int)==0)=false:=by simp;omega
   clear HB hk hz;go_enter Tryz.func86,Tryz.ntmps86
   go_wp2_with fail
   refine HL.out.mono ?_;rintro e w1 ⟨rfl,b1⟩;go_wp2_with fail
   refine(HB2.out _ b1).mono ?_;rintro e w2 ⟨rfl,b2⟩;have b3:=b1.trans (b2.mono b1.size);clear b1 b2;go_wp2;go_ret;exact⟨by rw[END.out];rfl,b3⟩
theorem zhI(v:Value)(xs:List Wri)(w:World)(hr:RdW w v xs)(hf:∀ x∈xs,FitsW x) :
 Calls Tryz.prog 87 #[v] w fun e w'=>e=.returned (.bool (zC xs))∧Below w.heap.size w w':=by
 obtain⟨a,cap,hv,hl,hm,_⟩:=id hr;unfold maxLen at hm;obtain⟨n,hn⟩:∃ n,n=xs.length:=⟨_,rfl⟩;rw[← hn] at hv hl;have HN:Hid (n=xs.length):=hn;have HF:Hid (∀ x∈xs,FitsW x):=hf;subst hv;clear hn hf;by_cases hbig:20<n
 ·have END:Hid (zC xs=false):=by unfold Hid zC;rw[decide_eq_false (by rw[← HN.out];omega)];rfl
  go_enter Tryz.func87,Tryz.ntmps87
  go_wp2;go_ret;exact⟨by rw[END.out];rfl,Below.refl _ _⟩
 ·have HB:Hid (∀ b,xs.all wriOk=b→zC xs=b):=fun b h=>by unfold zC;rw[decide_eq_true (by rw[← HN.out];omega),h];rfl
  go_enter Tryz.func87,Tryz.ntmps87
  go_wp2;go_loopw [10] (fun i wr=>∃ k:Nat,k≤n∧i=.int .i64 k∧Hid ((xs.take k).all wriOk=true)∧Below w.heap.size w wr) (fun i _=>n-(intOf i).toNat)
  case atStart=>exact⟨0,Nat.zero_le _,rfl,rfl,Below.refl _ _⟩
  case round =>
   obtain⟨k,hk,rfl,HA,hb⟩:=hrel;by_cases hlt:k<n
   ·have hkl:k<xs.length:=by rw[← HN.out];exact hlt
    have hkc:k<cap:=by omega
    obtain⟨b,off,rfl,hc⟩:=(hr.below hb).at HN.out k hkl;have hfx:=HF.out (nthW xs k) (by rw[zdE hkl];exact List.getElem_mem hkl);have HM:Hid (wriOk (nthW xs k)=true→(xs.take (k+1)).all wriOk=true):=fun h=>zfP hkl HA.out h
    have HNO:Hid (wriOk (nthW xs k)=false→zC xs=false):=fun h=>HB.out false (zkU hkl h)
    generalize nthW xs k=x at hc hfx HM HNO;obtain⟨c0,c1,c2⟩:=hc;have HE:Hid (∀ W,Calls Tryz.prog 125 #[.agg #[.string x.key,.string x.val,.int .i64 1,.bool x.gone]] W fun e w'=>e=.returned (.bool (wriOk x))∧Below W.heap.size W w'):=fun W=>zei (wriE x 1) W ⟨hfx.1,hfx.2,by show (-9223372036854775808:Int)≤1;omega,by show (1:Int)≤9223372036854775807;omega⟩
    have hx1:=zd1 wr x 77;have bb:=hb.alloc hb.size (.cells #[.string x.key,.string x.val,.bool x.gone] 77);obtain⟨d0,d1,d2⟩:=id hx1;clear hkl hfx;go_wp2_with fail
    refine(zgY x 1 _).mono ?_;rintro e w0 ⟨rfl,hb0⟩;have bc:=bb.trans (hb0.mono bb.size);clear hx1 d0 d1 d2 bb hb0;go_wp2_with fail
    refine(HE.out _).mono ?_;rintro e w1 ⟨rfl,hb1⟩;have b1:=bc.trans (hb1.mono bc.size);clear bc hb1 hb HA;cases hwx:wriOk x with
    | false =>
     have END:Hid (zC xs=false):=HNO.out hwx;clear HM HNO HE hwx;go_wp2;go_ret;exact⟨by rw[END.out];rfl,b1⟩
    | true =>
     have HA2:Hid ((xs.take (k+1)).all wriOk=true):=HM.out hwx;clear HM HNO HE hwx;go_wp2;go_roundw
     case rel=>exact⟨k+1,by omega,by go_num,HA2,b1⟩
     case measure=>simp[intOf];omega
   ·have hke:k=n:=by omega
    have END:Hid (zC xs=true):=HB.out true (by have:=HA.out;rwa [hke,HN.out,List.take_length] at this);clear hke HA;go_wp2;go_ret;exact⟨by rw[END.out];rfl,hb⟩
theorem zeG(v:Value)(xs:List Wri)(w:World)(hr:RdW w v xs)(hf:∀ x∈xs,FitsW x) :
 Calls Tryz.prog 49 #[v] w fun e w'=>e=.returned (.string (batS xs))∧Below w.heap.size w w':=by
 have HL:Hid (Calls Tryz.prog 87 #[v] w fun e w'=>e=.returned (.bool (zC xs))∧Below w.heap.size w w'):=zhI v xs w hr hf;obtain⟨a,cap,hv,hl,hm,_⟩:=id hr;unfold maxLen at hm;obtain⟨n,hn⟩:∃ n,n=xs.length:=⟨_,rfl⟩;rw[← hn] at hv hl;have HN:Hid (n=xs.length):=hn;subst hv;clear hf;by_cases hz:n=0
 ·have END:Hid (batS xs=⟨#[]⟩):=zfy (fun h=>h.2 (List.length_eq_zero_iff.1 (by rw[← HN.out];exact hz)));clear HL hr hn;subst hz;go_enter Tryz.func49,Tryz.ntmps49
  go_wp2;go_ret;exact⟨by rw[END.out];rfl,Below.refl _ _⟩
 have hq:((n:Int)==0)=false:=by simp;omega
 cases hk:zC xs with
 | false =>
  have END:Hid (batS xs=⟨#[]⟩):=zfy (fun h=>by rw[hk] at h;cases h.1);rw[hk] at HL;clear hn hr hz;go_enter Tryz.func49,Tryz.ntmps49
  go_wp2_with fail
  refine HL.out.mono ?_;rintro e w1 ⟨rfl,b1⟩;go_wp2;go_ret;exact⟨by rw[END.out];rfl,b1⟩
 | true =>
  rw[hk] at HL;have HSM:Hid (∀ s∈batTx xs,s.size≤1048576):=fun s hs=>by have:=zer (ziQ hk) s hs;omega
  have hlen:=(batchOk_iff.1 hk).1;rw[← HN.out] at hlen;have HLN:Hid (∀ k,(batTx (xs.take k)).length≤3*n):=fun k=>by rw[zbK,List.length_take,HN.out];omega
  have HT:Hid (batS xs=⟨(zac (batTx xs)).toArray⟩):=zd6 hk (fun h=>hz (by rw[HN.out,h];rfl));clear hk hn;go_enter Tryz.func49,Tryz.ntmps49
  go_wp2_with fail
  refine HL.out.mono ?_;rintro e w1 ⟨rfl,b1⟩;have o0:=zR w1;have b0:=b1.trans ((za w1 (.cells #[] 9)).mono b1.size);have o0':=o0.mono b1.size;clear o0 b1 HL hz;go_wp2;go_loopw [3,18] (fun oo ii wr=>∃ k:Nat,k≤n∧ii=.int .i64 k∧OwnS wr w.heap.size oo (batTx (xs.take k))∧Below w.heap.size w wr) (fun _ ii _=>n-(intOf ii).toNat)
  case atStart=>exact⟨0,Nat.zero_le _,rfl,o0',b0⟩
  case round =>
   clear o0' b0;obtain⟨k,hk,rfl,ho,hb⟩:=hrel;by_cases hlt:k<n
   ·have hkl:k<xs.length:=by rw[← HN.out];exact hlt
    have hkc:k<cap:=by omega
    obtain⟨b,off,rfl,hc0⟩:=hr.at HN.out k hkl;have HM:Hid (batTx (xs.take (k+1))=batTx (xs.take k)++trio (nthW xs k)):=zix hkl;have hyl:=HLN.out k;generalize nthW xs k=x at hc0 HM;have hc:=hc0.below hb;generalize batTx (xs.take k)=ys at ho HM hyl;have c1:(0:Int)≤(k:Int):=by omega
    have c2:(k:Int)<(n:Int):=by omega
    obtain⟨k0,k1,k2⟩:=id hc;have hx1:=zd1 wr x 77;obtain⟨V,hV⟩:∃ V,V=wr.alloc (.cells #[.string x.key,.string x.val,.bool x.gone] 77):=⟨_,rfl⟩;have hbV:Below w.heap.size w V:=by rw[hV];exact hb.alloc hb.size _
    have hoV:=ho.below (za wr (.cells #[.string x.key,.string x.val,.bool x.gone] 77));rw[← hV] at hoV;obtain⟨d0,d1,d2⟩:=id hx1;obtain⟨fl,hfl⟩:∃ fl,fl=flT x.gone:=⟨_,rfl⟩;have hr3:=tri_rd V x.key x.val fl;have hsz:V.heap.size=wr.heap.size+1:=by rw[hV];simp
    rw[hsz] at hr3;have o3:=hoV.below (za V (.cells #[.string x.key,.string x.val,.string fl] 9));have b3:=hbV.trans ((za V (.cells #[.string x.key,.string x.val,.string fl] 9)).mono hbV.size);have s3:=b3.size;have hlen3:ys.length+[x.key,x.val,fl].length≤1000000000:=by simp;omega
    have HN2:Hid (∀ v' w4,OwnS w4 w.heap.size v' (ys++[x.key,x.val,fl])→OwnS w4 w.heap.size v' (batTx (xs.take (k+1)))):=fun v' w4 h=>by rw[HM.out];unfold trio;rw[← hfl];exact h
    rw[hV] at hr3 o3 b3 s3;clear hkl hc hV hbV hoV ho hb hsz;cases hg:x.gone with
    | true =>
     rw[hg] at hfl d2 k2;have hfl2:fl=⟨#[49]⟩:=hfl;subst hfl2;rw[hg] at hr3 o3 b3 s3;clear hfl hg;go_wp2_with (at_builtin;(refine zO rfl _ _ rfl w.heap.size _ _ ys _ rfl rfl o3 hr3 (zgU _ _ _) hlen3 s3 ?_))
     intro v' w4 hown' hgrow;have b4:Below w.heap.size w w4:=b3.grown hgrow s3 (fun k hk=>(World.ownsRow.lt o3 k hk).1);have o4:=HN2.out _ _ hown';clear hgrow b3 o3 hr3 hown' HN2 s3 hc0 d0 d1 d2 hx1;go_wp2;go_roundw
     case rel=>exact⟨k+1,by omega,by go_num,o4,b4⟩
     case measure=>simp[intOf];omega
    | false =>
     rw[hg] at hfl d2 k2;have hfl2:fl=⟨#[48]⟩:=hfl;subst hfl2;rw[hg] at hr3 o3 b3 s3;clear hfl hg;go_wp2_with (at_builtin;(refine zO rfl _ _ rfl w.heap.size _ _ ys _ rfl rfl o3 hr3 (zgU _ _ _) hlen3 s3 ?_))
     intro v' w4 hown' hgrow;have b4:Below w.heap.size w w4:=b3.grown hgrow s3 (fun k hk=>(World.ownsRow.lt o3 k hk).1);have o4:=HN2.out _ _ hown';clear hgrow b3 o3 hr3 hown' HN2 s3 hc0 d0 d1 d2 hx1;go_wp2;go_roundw
     case rel=>exact⟨k+1,by omega,by go_num,o4,b4⟩
     case measure=>simp[intOf];omega
   ·have hke:k=n:=by omega
    have HE:Hid (batTx (xs.take k)=batTx xs):=by unfold Hid;rw[hke,HN.out,List.take_length]
    rw[HE.out] at ho;clear hke;go_wp2_with fail
    refine(zjm _ (batTx xs) _ ho.rd HSM.out).mono ?_;rintro e w1 ⟨u,rfl,ho1,hb1⟩;have hb2:=hb.trans (hb1.mono hb.size);have hcv:=zdN ho1;rw[← HT.out] at hcv;clear ho hb hb1;obtain⟨au,cu,hu⟩:=ho1.rd.shape;subst hu;go_wp2;go_ret;exact⟨rfl,hb2⟩
open Go.RowKit
def JmpX(J:Nat→Act→World→Prop)(Q:Exit→Act→World→Prop):Exit→Act→World→Prop
 | .goto l,a,w=>J l a w
 | e,a,w=>Q e a w
theorem zeD{J:Nat→Act→World→Prop}{Q:Exit→Act→World→Prop}{a:Act}{w:World}:JmpX J Q .ret a w=Q .ret a w:=rfl
theorem zrb{J J':Nat→Act→World→Prop}{Q:Exit→Act→World→Prop}(h:∀ l a w,J l a w→J' l a w):∀ e a w,JmpX J Q e a w→JmpX J' Q e a w:=by
 intro e a w hq;cases e<;>first | exact h _ _ _ hq | exact hq
theorem hop{P:Program}{c b:Code}{J:Nat→Act→World→Prop}{Q:Exit→Act→World→Prop}{l:Nat}{a:Act}{w:World}(hp:∀ l a w,J l a w→∃ b,findLabel c l=some (.seq .skip b)∧b.wp P (JmpX J Q) a w)(hf:findLabel c l=some (.seq .skip b))(hJ:J l a w):b.wp P (JmpX J Q) a w:=by
 obtain⟨b',hb,h⟩:=hp l a w hJ;rw[hf] at hb;injection hb with e
 injection e with _ e
 rw[e];exact h
theorem zjX{P:Program}{a:Act}{w:World}{Q:Exit→Act→World→Prop}{c:Code}(J:Nat→Act→World→Prop)(μ:Nat→Act→World→Nat)
 (pass:∀ l a w,J l a w→∃ b,findLabel c l=some (.seq .skip b)∧b.wp P (JmpX (fun l' a' w'=>J l' a' w'∧μ l' a' w'<μ l a w) Q) a w)
 (first0:(∀ l a w,J l a w→∃ b,findLabel c l=some (.seq .skip b)∧b.wp P (JmpX J Q) a w)→c.wp P (JmpX J Q) a w):(Code.scope c).wp P Q a w:=by
 have first:=first0 fun l a w h=>by
  obtain⟨b,hf,hb⟩:=pass l a w h;exact⟨b,hf,wp_mono hb (zrb fun _ _ _ h=>h.1)⟩
 intro b k cs;have key:∀ n l a w,μ l a w=n→J l a w→∃ rest e a' w',findLabel c l=some rest∧Q e a' w'∧Arrives P (lone (b.at a (.code rest::.inScope c::k)) cs w) b k cs e a' w':=by
  intro n;induction n using Nat.strongRecOn with
  | _ n ih =>
   intro l a w hn hJ;obtain⟨d,hf,hd⟩:=pass l a w hJ;have hd2:(Code.seq .skip d).wp P (JmpX (fun l' a' w'=>J l' a' w'∧μ l' a' w'<μ l a w) Q) a w:=wp_seq (wp_skip hd);obtain⟨e,a₁,w₁,hq,harr⟩:=hd2 b (.inScope c::k) cs;refine⟨Code.seq .skip d,?_⟩;cases e with
   | normal=>exact⟨.normal,a₁,w₁,hf,hq,Steps.trans harr (.one step_inScope)⟩
   | exit id=>exact⟨.exit id,a₁,w₁,hf,hq,fun k' hk=>harr k' (by simp[exitTo,hk])⟩
   | goto l' =>
    obtain⟨hJ',hlt⟩:=hq;obtain⟨rest,e₂,a₂,w₂,hf',hq₂,harr₂⟩:=ih _ (by omega) l' a₁ w₁ rfl hJ';exact⟨e₂,a₂,w₂,hf,hq₂,.of_steps (harr _ (by simp[gotoIn,hf'])) harr₂⟩
   | ret=>exact⟨_,a₁,w₁,hf,hq,harr⟩
   | panic ch=>exact⟨_,a₁,w₁,hf,hq,harr⟩
   | outgrown=>exact⟨_,a₁,w₁,hf,hq,harr⟩
 obtain⟨e,a₁,w₁,hq,harr⟩:=first b (.inScope c::k) cs
 cases e with
 | normal=>exact⟨.normal,a₁,w₁,hq,.head step_scope (Steps.trans harr (.one step_inScope))⟩
 | exit id=>exact⟨.exit id,a₁,w₁,hq,fun k' hk=>.head step_scope (harr k' (by simp[exitTo,hk]))⟩
 | goto l' =>
  obtain⟨rest,e₂,a₂,w₂,hf',hq₂,harr₂⟩:=key _ l' a₁ w₁ rfl hq;exact⟨e₂,a₂,w₂,hq₂,.of_steps (.head step_scope (harr _ (by simp[gotoIn,hf']))) harr₂⟩
 | ret=>exact⟨_,a₁,w₁,hq,.of_steps (.one step_scope) harr⟩
 | panic ch=>exact⟨_,a₁,w₁,hq,.of_steps (.one step_scope) harr⟩
 | outgrown=>exact⟨_,a₁,w₁,hq,.of_steps (.one step_scope) harr⟩
end Go.Proofs.YtannfbpohhnnkaaGreatDoor
