import Derived.Test.YtjlnchhgkfnldaaGreatChecked
import Derived.WalkKit
import Derived.WalkSmall
import Derived.OpenShut
import Derived.Deep.DeepMust
import Derived.Deep.DeepFit
import Derived.BigQuiet
import Derived.Laws.IdiomStrings
import Derived.Laws.BytesArg
import Derived.Lib.ConvBytes
namespace Go.Proofs.YtjlnchhgkfnldaaGreat
set_option maxHeartbeats 16000000
set_option maxRecDepth 100000
theorem oL{w:World}{B t s n:Nat}{v:Value}{xs:List Value}(h:w.ownsRow B t s v n xs)(k:Nat)(hk:v.ownBlock=some k):B≤k∧k<w.heap.size:=World.ownsRow.lt h k hk
theorem nR(n:Nat):n≤n:=Nat.le_refl n
theorem nT{a b c:Nat}(h:a≤b)(k:b≤c):a≤c:=Nat.le_trans h k
theorem lA{α:Type}{a b:List α}:(a++b).length=a.length+b.length:=List.length_append
theorem sA{α:Type}(l:List α)(i:Nat)(a:α):l.toArray.setIfInBounds i a=(l.set i a).toArray:=List.setIfInBounds_toArray l i a
theorem sZ{α:Type}{x:α}{xs:List α}{a:α}:(x::xs).set 0 a=a::xs:=rfl
theorem sS{α:Type}{x:α}{xs:List α}{n:Nat}{a:α}:(x::xs).set (n+1) a=x::xs.set n a:=rfl
open Go.RowKit
def BV(bs:List UInt8):List Value:=bs.map fun b:UInt8=>Value.int .u8 (b.toNat:Int)
theorem zbR(bs:List UInt8):(BV bs).length=bs.length:=by simp[BV]
theorem zeE(a b:List UInt8):BV (a++b)=BV a++BV b:=by simp[BV]
theorem zhw(bs:List UInt8)(i:Nat)(h:i<bs.length):(BV bs)[i]? = some (.int .u8 (bs[i].toNat:Int)):=by simp[BV,h]
def Own(w:World)(base:Nat)(v:Value)(bs:List UInt8):Prop:=w.ownsRow base 5 1 v bs.length (BV bs)
def Rd(w:World)(v:Value)(bs:List UInt8):Prop :=
 ∃ a cap,v=.slice a bs.length cap∧bs.length≤cap∧cap≤maxLen ∧
  (bs=[]∨∃ b off,a=some ⟨b,off,none⟩∧∀ i (h:i<bs.length),w.cell? ⟨b,off+i,none⟩=some (.int .u8 (bs[i].toNat:Int)))
theorem Own.rd{w:World}{base:Nat}{v:Value}{bs:List UInt8}(h:Own w base v bs):Rd w v bs:=by
 have h':=h;rcases h.2 with ⟨rfl,h0⟩ | ⟨g,cap,cur,rfl,hb,hg,hn,hc,hs,ht⟩
 ·have:bs=[]:=List.length_eq_zero_iff.1 h0;subst this;exact⟨none,0,rfl,nR _,Nat.zero_le _,.inl rfl⟩
 ·refine⟨some ⟨g,0,none⟩,cap,rfl,hn,hc,.inr ⟨g,0,rfl,fun i hi=>?_⟩⟩;have:=h'.cellAt i (by omega);rw[zhw bs i hi] at this;simpa using this
theorem zaZ{w w':World}{base:Nat}{e:TypeId}{s:Nat}{v:Value}{n:Nat}{xs:List Value}(h:w.ownsRow base e s v n xs)(hb:Below w.heap.size w w'):w'.ownsRow base e s v n xs:=by
 refine⟨h.1,?_⟩;rcases h.2 with h2 | ⟨g,cap,cur,hv,hg,hh,r⟩
 ·exact .inl h2
 ·exact .inr ⟨g,cap,cur,hv,hg,by rw[hb.block g (Array.getElem?_eq_some_iff.1 hh).1];exact hh,r⟩
theorem Own.below{w w':World}{base:Nat}{v:Value}{bs:List UInt8}(h:Own w base v bs)(hb:Below w.heap.size w w'):Own w' base v bs:=zaZ h hb
theorem Own.drewN{w:World}{base:Nat}{v:Value}{bs:List UInt8}(h:Own w base v bs)(q:Nat):Own (w.drewN q) base v bs:=h
theorem Own.mono{w:World}{base base':Nat}{v:Value}{bs:List UInt8}(h:Own w base v bs)(hb:base'≤base):Own w base' v bs:=by
 refine⟨h.1,?_⟩;rcases h.2 with h2 | ⟨g,cap,cur,hv,hg,r⟩
 ·exact .inl h2
 ·exact .inr ⟨g,cap,cur,hv,nT hb hg,r⟩
theorem Rd.below{w w':World}{v:Value}{bs:List UInt8}(h:Rd w v bs)(hb:Below w.heap.size w w'):Rd w' v bs:=by
 obtain⟨a,cap,hv,h1,h2,h3⟩:=h;refine⟨a,cap,hv,h1,h2,?_⟩;rcases h3 with h3 | ⟨b,off,ha,hc⟩
 ·exact .inl h3
 ·exact .inr ⟨b,off,ha,fun i hi=>by rw[hb.cell (World.block_lt_of_cell? w _ (hc i hi))];exact hc i hi⟩
theorem Rd.drewN{w:World}{v:Value}{bs:List UInt8}(h:Rd w v bs)(q:Nat):Rd (w.drewN q) v bs:=h
theorem Rd.shape{w:World}{v:Value}{bs:List UInt8}(h:Rd w v bs):∃ a cap,v=.slice a bs.length cap:=⟨h.choose,h.choose_spec.choose,h.choose_spec.choose_spec.1⟩
theorem rd_nil(w:World):Rd w (.slice none 0 0) []:=⟨none,0,rfl,nR _,Nat.zero_le _,.inl rfl⟩
theorem byte_of{n:Int}(h:(Lit.int .u8 n).wf=true):((UInt8.ofNat n.toNat).toNat:Int)=n:=by
 have h1:=bounds_u8 h;rw[UInt8.toNat_ofNat'];omega
theorem rd_of{w:World}{x:Addr}{len cap:Nat}{zs:List Int}(hl:len≤cap)(hm:cap≤maxLen)(hz:zs.length=cap)(hcell:∀ i,i<zs.length→w.cell? (x.add i)=some (.int .u8 (zs.getD i 0)))(hwz:∀ n∈zs,(Lit.int .u8 n).wf=true) :
 ∃ bs,Rd w (.slice (some x) len cap) bs:=by
 refine⟨(zs.take len).map fun n=>UInt8.ofNat n.toNat,some x,cap,?_,?_,hm,?_⟩
 ·congr 1;rw[List.length_map,List.length_take];omega
 ·rw[List.length_map,List.length_take];omega
 ·by_cases h0:len=0
  ·left;subst h0;simp
  ·right
   obtain⟨b,off,spot⟩:=x;have hc:=hcell 0 (by omega);have hspot:spot=none:=(by simpa [Addr.add] using World.cell?_spot hc);subst hspot;refine⟨b,off,rfl,fun i hi=>?_⟩;have hi':i<len:=(by rw[List.length_map,List.length_take] at hi;omega);have h:=hcell i (by omega);have hg:zs.getD i 0=zs[i]'(by omega):=(by simp[List.getD,List.getElem?_eq_getElem (show i<zs.length by omega)]);rw[Addr.add_lit] at h;rw[h,hg];simp only[List.getElem_map,List.getElem_take];rw[byte_of (hwz _ (List.getElem_mem (by omega)))]
theorem zd2{w1:World}{B:Nat}{v':Value}{ys:List UInt8}{x:Int}(b:UInt8)(hx:x=(b.toNat:Int))(h:w1.ownsRow B 5 1 v' (ys.length+1) (BV ys++[.int .u8 x])):Own w1 B v' (ys++[b]):=by
 subst hx;have e:BV (ys++[b])=BV ys++[.int .u8 (b.toNat:Int)]:=by simp[BV]
 unfold Own;rw[e,lA];exact h
theorem zd6{w wr w1:World}{B:Nat}{v:Value}{o:Obj}{ys:List UInt8}(hown:Own wr B v ys)(hb:Below B w wr)(hB:B≤wr.heap.size)(hg:(wr.alloc o).grownBy w1 v.ownBlock):Below B w w1 :=
 (hb.alloc hB o).grown hg (by simp;omega) (fun k hk=>(oL hown k hk).1)
theorem zex(w:World)(x:Value)(t:TypeId):∀ j u,[x][j]? = some u→(w.alloc (.cells #[x] t)).cell? ((⟨w.heap.size,0,none⟩:Addr).add j)=some u:=by
 intro j u hj;match j,hj with
 | 0,hj=>simp at hj;subst hj;simp[Addr.add]
def enc(n:Nat):List UInt8:=if h:n<128 then [UInt8.ofNat n] else UInt8.ofNat (n % 128+128)::enc (n / 128)
theorem zbu(n:Nat)(h:n<128):enc n=[UInt8.ofNat n]:=by rw[enc,dif_pos h]
theorem zfq(n:Nat)(h:128≤n):enc n=UInt8.ofNat (n % 128+128)::enc (n / 128):=by rw[enc,dif_neg (by omega)]
theorem enc_len(k:Nat):∀ n,n<128 ^ (k+1)→(enc n).length≤k+1:=by
 induction k with
 | zero=>intro n h;rw[zbu n (by simpa using h)];simp
 | succ k ih =>
  intro n h;by_cases hn:n<128
  ·rw[zbu n hn];simp
  ·rw[zfq n (by omega),List.length_cons];have:=ih (n / 128) (by rw[Nat.pow_succ] at h;omega);omega
theorem zak(n:Nat)(h:n≤9223372036854775807):(enc n).length≤9:=enc_len 8 n (by omega)
theorem zjx(n:Nat)(h:n<128):((UInt8.ofNat n).toNat:Int)=(n:Int):=by
 rw[UInt8.toNat_ofNat'];omega
theorem zhx(n:Nat):((UInt8.ofNat (n % 128+128)).toNat:Int)=(n:Int) % 128+128:=by
 rw[UInt8.toNat_ofNat'];omega
def num(n:Int):List UInt8:=if 0≤n∧n≤1099511627776 then enc n.toNat else []
open Go.RowKit
theorem zo8(x:Int)(m:Nat)(hm:m<4611686018427387904):0≤bits .and .i64 x (m:Int)∧bits .and .i64 x (m:Int)≤(m:Int):=by
 have e:bits .and .i64 x (m:Int)=IntKind.i64.wrap ((BitVec.ofInt 64 x &&& BitVec.ofInt 64 (m:Int)).toNat:Int):=rfl;have h2:(BitVec.ofInt 64 (m:Int)).toNat=m:=by rw[BitVec.ofInt_natCast,BitVec.toNat_ofNat];exact Nat.mod_eq_of_lt (by omega)
 have h3:(BitVec.ofInt 64 x &&& BitVec.ofInt 64 (m:Int)).toNat≤m:=by rw[BitVec.toNat_and,h2];exact Nat.and_le_right
 rw[e,IntKind.wrap_i64];omega
def DCur(w0 w:World)(g:Nat):Prop :=
 ∃ (v:Value) (bs:List UInt8) (i:Nat) (h:Int),Rd w0 v bs∧bs.length≤4096∧w0.heap.size≤g∧w.heap[g]? = some (.cells #[v,.int .i64 (i:Int),.int .i64 h] 113 (0,0))∧Below w0.heap.size w0 w∧i≤bs.length
theorem DCur.ge{w0 w:World}{g:Nat}(h:DCur w0 w g):w0.heap.size≤g:=by obtain⟨_,_,_,_,_,_,h,_⟩:=h;exact h
theorem DCur.lt{w0 w:World}{g:Nat}(h:DCur w0 w g):g<w.heap.size:=by obtain⟨_,_,_,_,_,_,_,h,_⟩:=h;exact(Array.getElem?_eq_some_iff.1 h).1
theorem DCur.bel{w0 w:World}{g:Nat}(h:DCur w0 w g):Below w0.heap.size w0 w:=by obtain⟨_,_,_,_,_,_,_,_,h,_⟩:=h;exact h
theorem DCur.alloc{w0 w:World}{g:Nat}(h:DCur w0 w g)(o:Obj):DCur w0 (w.alloc o) g:=by
 have hl:=h.lt;obtain⟨v,bs,i,x,h1,h2,h3,h4,h5,h6⟩:=h;exact⟨v,bs,i,x,h1,h2,h3,by rw[Below.heap_alloc w o g hl];exact h4,h5.alloc (by omega) o,h6⟩
theorem DCur.grow{w0 w w':World}{g:Nat}{row:Option Nat}(h:DCur w0 w g)(hg:w.grownBy w' row)(hr:∀ k,row=some k→g<k):DCur w0 w' g:=by
 have hl:=h.lt;obtain⟨v,bs,i,x,h1,h2,h3,h4,h5,h6⟩:=h;exact⟨v,bs,i,x,h1,h2,h3,by rw[hg.block g hl (fun e=>by have:=hr g e.symm;omega)];exact h4,h5.grown hg (by omega) (fun k hk=>by have:=hr k hk;omega),h6⟩
theorem DCur.drewN{w0 w:World}{g:Nat}(h:DCur w0 w g)(q:Nat):DCur w0 (w.drewN q) g:=by
 obtain⟨v,bs,i,x,h1,h2,h3,h4,h5,h6⟩:=h;exact⟨v,bs,i,x,h1,h2,h3,h4,below_drewN h5 q,h6⟩
def zlr(w0 w:World)(g:Nat)(m:Int)(e:Ending)(w':World):Prop :=
 ∃ x:Int,e=.returned (.int .i64 x)∧0≤x∧x<m∧DCur w0 w' g∧w.grownBy w' (some g)
theorem zcV{w:World}{g j:Nat}(u:Value):w.grownBy (w.setCell ⟨g,j,none⟩ u) (some g) :=
 ⟨rfl,rfl,rfl,by simp,fun k _ hk=>heap_setCell_other w ⟨g,j,none⟩ k u (fun e=>hk (by simp[e]))⟩
theorem zq{a b c:World}{row:Option Nat}(h:a.grownBy b row)(k:b.grownBy c row):a.grownBy c row :=
 ⟨k.os.trans h.os,k.tape.trans h.tape,k.output.trans h.output,nT h.size k.size,fun i hi hr=>(k.block i (Nat.lt_of_lt_of_le hi h.size) hr).trans (h.block i hi hr)⟩
theorem zbz{a w:World}{row:Option Nat}(h:a.grownBy w row)(q:Nat):a.grownBy (w.drewN q) row:=⟨h.os,h.tape,h.output,h.size,h.block⟩
theorem zaY(a:World)(row:Option Nat):a.grownBy a row:=⟨rfl,rfl,rfl,nR _,fun _ _ _=>rfl⟩
theorem zgZ{w:World}{g:Nat}{v:Value}{i h:Int}(hb:w.heap[g]? = some (.cells #[v,.int .i64 i,.int .i64 h] 113 (0,0))) :
 w.cell? ⟨g,0,none⟩=some v∧w.cell? ⟨g,1,none⟩=some (.int .i64 i)∧w.cell? ⟨g,2,none⟩=some (.int .i64 h)∧w.frozen? ⟨g,1,none⟩=false∧w.frozen? ⟨g,2,none⟩=false:=by
 refine⟨?_,?_,?_,?_,?_⟩<;>simp[World.cell?,World.frozen?,hb]
theorem zmW{w:World}{g:Nat}{v:Value}{i h h':Int}(hb:w.heap[g]? = some (.cells #[v,.int .i64 i,.int .i64 h] 113 (0,0))) :
 (w.setCell ⟨g,2,none⟩ (.int .i64 h')).heap[g]? = some (.cells #[v,.int .i64 i,.int .i64 h'] 113 (0,0)):=by rw[heap_setCell_same w g 2 _ _ _ hb];rfl
theorem zm6{w:World}{g:Nat}{v:Value}{i i' h:Int}(hb:w.heap[g]? = some (.cells #[v,.int .i64 i,.int .i64 h] 113 (0,0))) :
 (w.setCell ⟨g,1,none⟩ (.int .i64 i')).heap[g]? = some (.cells #[v,.int .i64 i',.int .i64 h] 113 (0,0)):=by rw[heap_setCell_same w g 1 _ _ _ hb];rfl
theorem zci(w0 w:World)(g:Nat)(h:DCur w0 w g) :
 Calls Tryz.prog 93 #[.pointer (some ⟨g,0,none⟩)] w fun e w'=>zlr w0 w g 256 e w':=by
 obtain⟨v,bs,i,x,hr,hbl,hge,hblk,hbel,hile⟩:=h;obtain⟨a,cap,hv,hl,hm,hA⟩:=hr;have HRd:Hid (Rd w0 v bs):=⟨a,cap,hv,hl,hm,hA⟩;unfold maxLen at hm;subst hv;obtain⟨c0,c1,c2,f1,f2⟩:=zgZ hblk;go_enter Tryz.func93,Tryz.ntmps93
 go_wp2;generalize wrap64 (wrap64 (x*6364136223846793005)+1442695040888963407)=y;have hblk2:=zmW (h':=y) hblk;have hgr:w.grownBy (w.setCell ⟨g,2,none⟩ (.int .i64 y)) (some g):=zcV _;have hbel2:Below w0.heap.size w0 (w.setCell ⟨g,2,none⟩ (.int .i64 y)):=hbel.setCell hge _;generalize w.setCell ⟨g,2,none⟩ (.int .i64 y)=W at hblk2 hgr hbel2 ⊢;clear c0 c1 c2 f1 f2 hblk hbel;obtain⟨c0,c1,c2,f1,f2⟩:=zgZ hblk2;go_quiet (fail)
 have hx1:=fun z:Int=>zo8 z 255 (by omega)
 by_cases hi:i<bs.length
 ·obtain⟨b,off,ha,hcl⟩:∃ b off,a=some ⟨b,off,none⟩∧W.cell? ⟨b,off+i,none⟩=some (.int .u8 (bs[i].toNat:Int)):=by
   rcases hA with h | ⟨b,off,ha,hc⟩
   ·subst h;simp at hi
   ·exact⟨b,off,ha,by rw[hbel2.cell (World.block_lt_of_cell? w0 _ (hc i hi))];exact hc i hi⟩
  rw[ha] at c0;have Hx1:Hid (∀ z:Int,0≤bits .and .i64 z ((255:Nat):Int)∧bits .and .i64 z ((255:Nat):Int)≤((255:Nat):Int)):=hx1;have HI:Hid (i+1≤bs.length):=by show _≤_;omega
  clear hA hx1;go_wp2;go_quiet (fail)
  go_wp2;go_quiet (fail)
  go_wp2;go_ret;refine⟨_,rfl,(Hx1.out _).1,Int.lt_of_le_of_lt (Hx1.out _).2 (by decide),⟨_,bs,i+1,y,HRd.out,hbl,hge,zm6 hblk2,(below_drewN hbel2 _).setCell hge _,HI.out⟩,zq (zbz hgr _) (zcV _)⟩
 ·have Hx1:Hid (∀ z:Int,0≤bits .and .i64 z ((255:Nat):Int)∧bits .and .i64 z ((255:Nat):Int)≤((255:Nat):Int)):=hx1;clear hA hx1;go_wp2;go_quiet (fail)
  go_wp2;go_ret;refine⟨_,rfl,(Hx1.out _).1,Int.lt_of_le_of_lt (Hx1.out _).2 (by decide),⟨_,bs,i,y,HRd.out,hbl,hge,hblk2,below_drewN (below_drewN hbel2 _) _,hile⟩,zbz (zbz hgr _) _⟩
theorem zB(w0 w:World)(g:Nat)(n:Int)(h:DCur w0 w g)(hn:0<n)(hn2:n≤4294967296) :
 Calls Tryz.prog 54 #[.pointer (some ⟨g,0,none⟩),.int .i64 n] w fun e w'=>zlr w0 w g n e w':=by
 by_cases h256:n≤256
 ·go_enter Tryz.func54,Tryz.ntmps54
  go_wp2_with fail
  refine(zci w0 _ g h).mono ?_;rintro e w1 ⟨x,rfl,hx0,hx1,hc,hg⟩;have hm0:=Int.emod_nonneg x (show n≠0 by omega);have hm1:=Int.emod_lt_of_pos x hn;go_wp2;go_ret;exact⟨_,rfl,hm0,hm1,hc,hg⟩
 ·go_enter Tryz.func54,Tryz.ntmps54
  go_wp2_with fail
  refine(zci w0 _ g h).mono ?_;rintro e w1 ⟨x1,rfl,hx0,hx1,hc1,hg1⟩;go_wp2_with fail
  refine(zci w0 _ g hc1).mono ?_;rintro e w2 ⟨x2,rfl,hy0,hy1,hc2,hg2⟩;have hg12:=zq hg1 hg2;clear hc1 hg1 hg2;go_wp2_with fail
  refine(zci w0 _ g hc2).mono ?_;rintro e w3 ⟨x3,rfl,hz0,hz1,hc3,hg3⟩;have hg13:=zq hg12 hg3;clear hc2 hg12 hg3;go_wp2_with fail
  refine(zci w0 _ g hc3).mono ?_;rintro e w4 ⟨x4,rfl,hu0,hu1,hc4,hg4⟩;have hg14:=zq hg13 hg4;clear hc3 hg13 hg4;have hm0:=Int.emod_nonneg (x1*16777216+x2*65536+x3*256+x4) (show n≠0 by omega);have hm1:=Int.emod_lt_of_pos (x1*16777216+x2*65536+x3*256+x4) hn;go_wp2;go_ret;exact⟨_,rfl,hm0,hm1,hc4,hg14⟩
def OncePost(w0 w:World)(g:Nat)(e:Ending)(w':World):Prop:=∃ b:Bool,e=.returned (.bool b)∧DCur w0 w' g∧w.grownBy w' (some g)
theorem za6(w0 w:World)(g:Nat)(n:Int)(h:DCur w0 w g)(hn:0<n)(hn2:n≤4294967296) :
 Calls Tryz.prog 43 #[.pointer (some ⟨g,0,none⟩),.int .i64 n] w fun e w'=>OncePost w0 w g e w':=by
 go_enter Tryz.func43,Tryz.ntmps43
 go_wp2_with fail
 refine(zB w0 _ g n h hn hn2).mono ?_;rintro e w1 ⟨x,rfl,hx0,hx1,hc,hg⟩;go_wp2;go_ret;exact⟨_,rfl,hc,hg⟩
def NewPost(w:World)(e:Ending)(w':World):Prop:=∃ g,e=.returned (.pointer (some ⟨g,0,none⟩))∧DCur w w' g
theorem zkb(v:Value)(bs:List UInt8)(w:World)(hr:Rd w v bs)(hb:bs.length≤4096) :
 Calls Tryz.prog 41 #[v] w fun e w'=>NewPost w e w':=by
 have HRd:Hid (Rd w v bs):=hr;obtain⟨a,cap,hv,hl,hm,hA⟩:=hr;unfold maxLen at hm;subst hv;go_enter Tryz.func41,Tryz.ntmps41
 go_wp2;go_loop [3,4] (fun hh ii=>∃ (k:Nat) (y:Int),k≤bs.length∧ii=.int .i64 k∧hh=.int .i64 y∧0≤y∧y≤1073741823) (fun _ ii=>bs.length-(intOf ii).toNat)
 case atStart=>exact⟨0,_,Nat.zero_le _,rfl,rfl,by omega,by omega⟩
 case round =>
  obtain⟨k,y,hk,rfl,rfl,hy0,hy1⟩:=hrel;by_cases hlt:k<bs.length
  ·obtain⟨b,off,ha,hc⟩:∃ b off,a=some ⟨b,off,none⟩∧w.cell? ⟨b,off+k,none⟩=some (.int .u8 (bs[k].toNat:Int)):=by
    rcases hA with h | ⟨b,off,ha,hc⟩
    ·subst h;simp at hlt
    ·exact⟨b,off,ha,hc k hlt⟩
   rw[ha];have Hx1:Hid (∀ z:Int,0≤bits .and .i64 z ((1073741823:Nat):Int)∧bits .and .i64 z ((1073741823:Nat):Int)≤((1073741823:Nat):Int)):=fun z=>zo8 z 1073741823 (by omega)
   obtain⟨d,hd⟩:∃ d:Nat,d=bs[k].toNat:=⟨_,rfl⟩;have hd8:d<256:=(by rw[hd];exact UInt8.toNat_lt _);rw[← hd] at hc;clear hA hd;go_wp2;go_round
   case rel=>exact⟨k+1,_,by omega,by go_num,rfl,(Hx1.out _).1,(Hx1.out _).2⟩
   case measure=>simp[intOf];omega
  ·clear hA;go_wp2;go_ret;exact⟨w.heap.size,rfl,_,bs,0,y,HRd.out,hb,nR _,heap_alloc_new w _,(Below.refl _ _).alloc (nR _) _,Nat.zero_le _⟩
open Go.RowKit
theorem Tryz.info5:(Tryz.prog.info? 5).map (fun i=>(i.zero,i.size,i.bytes))=some (some (.int .u8 0),1,1):=by kernel_rfl
theorem zcB(w:World):Own (w.alloc (.cells #[] 5)) w.heap.size (.slice (some ⟨w.heap.size,0,none⟩) 0 0) []:=World.ownsRow_lit w #[] 0 (nR _) (Nat.zero_le _) rfl
theorem zH(s:ByteArray):s.data.toList.length=s.size:=by rw[Array.length_toList];rfl
theorem zgU(w:World)(b o n c:Nat)(l:List UInt8)(hl:l.length=n)(hc:∀ j (hj:j<l.length),w.cell? ⟨b,o+j,none⟩=some (.int .u8 (l[j].toNat:Int))) :
 (convert 22 9 (.slice (some ⟨b,o,none⟩) n c)).run Tryz.prog w=.ok (.string ⟨l.toArray⟩) w:=by
 subst hl;exact run_convert_bytes_back w 22 9 5 ⟨b,o,none⟩ c l Tryz.underlying22 Tryz.underlying5 Tryz.underlying9 (fun j hj=>by rw[Addr.add_lit];exact hc j hj)
theorem zcv{w:World}{B:Nat}{v:Value}{bs:List UInt8}(h:Own w B v bs):(convert 22 9 v).run Tryz.prog w=.ok (.string ⟨bs.toArray⟩) w:=by
 rcases h.2 with ⟨rfl,h0⟩ | ⟨g,cap,cur,rfl,_⟩
 ·have:bs=[]:=List.length_eq_zero_iff.1 h0;subst this;exact run_convert_bytes_nil w 22 5 Tryz.underlying22 Tryz.underlying5 0 0 9 Tryz.underlying9
 ·refine zgU w g 0 bs.length cap bs rfl fun j hj=>?_
  have:=World.ownsRow.cellAt h j (by omega);rw[zhw bs j hj] at this;rw[Nat.zero_add];exact this
theorem zj5(x:Int)(h0:0≤x)(h1:x<256):x=((UInt8.ofNat x.toNat).toNat:Int):=by rw[UInt8.toNat_ofNat'];omega
theorem madeB(n:Nat):(madeCells #[Value.int .u8 0] n).toList=BV (List.replicate n 0):=by
 rw[toList_madeCells_one];simp[BV]
theorem zdW(w:World)(s:ByteArray):(convert 9 22 (.string s)).run Tryz.prog w=.ok (.slice (some ⟨w.heap.size,0,none⟩) s.size (grownCap w s.size 0 5)) (Lib.bytesWorld w 5 s) :=
 Lib.run_convert_string_bytes w 9 22 5 s Tryz.underlying9 Tryz.underlying22 Tryz.underlying5
theorem zhZ(w:World)(s:ByteArray)(hs:s.size≤maxLen):Rd (Lib.bytesWorld w 5 s) (.slice (some ⟨w.heap.size,0,none⟩) s.size (grownCap w s.size 0 5)) s.data.toList:=by
 have hl:=zH s;refine⟨_,_,by rw[hl],by rw[hl];exact grownCap_ge w s.size 0 _,grownCap_le_maxLen w s.size 0 _ hs,.inr ⟨w.heap.size,0,rfl,fun i hi=>?_⟩⟩;rw[Nat.zero_add,Lib.bytesWorld_cell w _ s i (by omega)];simp[List.getD,List.getElem?_eq_getElem hi]
theorem zeu(w:World)(s:ByteArray):Below w.heap.size w (Lib.bytesWorld w 5 s) :=
 ⟨rfl,rfl,rfl,by rw[Lib.bytesWorld_size];omega,fun k hk=>Lib.bytesWorld_at_old w _ s k hk⟩
theorem own_some{w:World}{B:Nat}{v:Value}{bs:List UInt8}(h:Own w B v bs)(hn:bs≠[]):∃ g cap,v=.slice (some ⟨g,0,none⟩) bs.length cap∧∀ j u,(BV bs)[j]? = some u→w.cell? ((⟨g,0,none⟩:Addr).add j)=some u:=by
 rcases h.2 with ⟨_,h0⟩ | ⟨g,cap,cur,hv,_⟩
 ·exact absurd (List.length_eq_zero_iff.1 h0) hn
 ·exact⟨g,cap,hv,World.ownsRow.cells h (by rw[hv];rfl)⟩
theorem zmP(bs:List UInt8):∀ u∈BV bs,u.oneCell'=true:=by
 intro u hu;obtain⟨_,_,rfl⟩:=List.mem_map.1 hu;rfl
theorem own_more{w1:World}{B:Nat}{v':Value}{ys zs:List UInt8}(h:w1.ownsRow B 5 1 v' (ys.length+zs.length) (BV ys++BV zs)):Own w1 B v' (ys++zs):=by
 unfold Own;rw[zeE,lA];exact h
open Go.RowKit
theorem Tryz.info9:(Tryz.prog.info? 9).map (fun i=>(i.zero,i.size,i.bytes))=some (some (.string ⟨#[]⟩),1,16):=by kernel_rfl
def SV(ss:List ByteArray):List Value:=ss.map Value.string
theorem zi8(ss:List ByteArray):(SV ss).length=ss.length:=by simp[SV]
theorem zpy(a b:List ByteArray):SV (a++b)=SV a++SV b:=by simp[SV]
theorem zjw(ss:List ByteArray)(i:Nat)(h:i<ss.length):(SV ss)[i]? = some (.string ss[i]):=by simp[SV,h]
theorem SV_set(ss:List ByteArray)(i:Nat)(s:ByteArray):SV (ss.set i s)=(SV ss).set i (.string s):=by simp[SV,List.map_set]
def OwnS(w:World)(base:Nat)(v:Value)(ss:List ByteArray):Prop:=w.ownsRow base 9 1 v ss.length (SV ss)
def RdS(w:World)(v:Value)(ss:List ByteArray):Prop :=
 ∃ a cap,v=.slice a ss.length cap∧ss.length≤cap∧cap≤maxLen ∧
  (ss=[]∨∃ b off,a=some ⟨b,off,none⟩∧∀ i (h:i<ss.length),w.cell? ⟨b,off+i,none⟩=some (.string ss[i]))
theorem OwnS.rd{w:World}{base:Nat}{v:Value}{ss:List ByteArray}(h:OwnS w base v ss):RdS w v ss:=by
 have h':=h;rcases h.2 with ⟨rfl,h0⟩ | ⟨g,cap,cur,rfl,hb,hg,hn,hc,hs,ht⟩
 ·have:ss=[]:=List.length_eq_zero_iff.1 h0;subst this;exact⟨none,0,rfl,nR _,Nat.zero_le _,.inl rfl⟩
 ·refine⟨some ⟨g,0,none⟩,cap,rfl,hn,hc,.inr ⟨g,0,rfl,fun i hi=>?_⟩⟩;have:=h'.cellAt i (by omega);rw[zjw ss i hi] at this;simpa using this
theorem OwnS.below{w w':World}{base:Nat}{v:Value}{ss:List ByteArray}(h:OwnS w base v ss)(hb:Below w.heap.size w w'):OwnS w' base v ss:=zaZ h hb
theorem OwnS.drewN{w:World}{base:Nat}{v:Value}{ss:List ByteArray}(h:OwnS w base v ss)(q:Nat):OwnS (w.drewN q) base v ss:=h
theorem OwnS.mono{w:World}{base base':Nat}{v:Value}{ss:List ByteArray}(h:OwnS w base v ss)(hb:base'≤base):OwnS w base' v ss:=by
 refine⟨h.1,?_⟩;rcases h.2 with h2 | ⟨g,cap,cur,hv,hg,r⟩
 ·exact .inl h2
 ·exact .inr ⟨g,cap,cur,hv,nT hb hg,r⟩
theorem RdS.below{w w':World}{v:Value}{ss:List ByteArray}(h:RdS w v ss)(hb:Below w.heap.size w w'):RdS w' v ss:=by
 obtain⟨a,cap,hv,h1,h2,h3⟩:=h;refine⟨a,cap,hv,h1,h2,?_⟩;rcases h3 with h3 | ⟨b,off,ha,hc⟩
 ·exact .inl h3
 ·exact .inr ⟨b,off,ha,fun i hi=>by rw[hb.cell (World.block_lt_of_cell? w _ (hc i hi))];exact hc i hi⟩
theorem RdS.drewN{w:World}{v:Value}{ss:List ByteArray}(h:RdS w v ss)(q:Nat):RdS (w.drewN q) v ss:=h
theorem zgP(w:World):OwnS (w.alloc (.cells #[] 9)) w.heap.size (.slice (some ⟨w.heap.size,0,none⟩) 0 0) []:=World.ownsRow_lit w #[] 0 (nR _) (Nat.zero_le _) rfl
theorem zpp{w1:World}{B:Nat}{v':Value}{ys:List ByteArray}{x:ByteArray}(h:w1.ownsRow B 9 1 v' (ys.length+1) (SV ys++[.string x])):OwnS w1 B v' (ys++[x]):=by
 have e:SV (ys++[x])=SV ys++[.string x]:=by simp[SV]
 unfold OwnS;rw[e,lA];exact h
theorem zgD{w wr w1:World}{B B':Nat}{v:Value}{o:Obj}{ys:List ByteArray}(hown:OwnS wr B' v ys)(hBB:B≤B')(hb:Below B w wr)(hB:B≤wr.heap.size)(hg:(wr.alloc o).grownBy w1 v.ownBlock):Below B w w1 :=
 (hb.alloc hB o).grown hg (by simp;omega) (fun k hk=>nT hBB (oL hown k hk).1)
theorem zl{w w':World}{B:Nat}{e:TypeId}{s:Nat}{v:Value}{n:Nat}{xs:List Value}{row:Option Nat}(h:w.ownsRow B e s v n xs)(hg:w.grownBy w' row)(hd:∀ k,v.ownBlock=some k→row≠some k):w'.ownsRow B e s v n xs:=by
 refine World.ownsRow.kept h hg ?_;cases hu:v.ownBlock with
 | none=>exact .inl rfl
 | some k=>exact .inr fun e=>hd k hu e.symm
open Go.RowKit
def TextD(w0 w:World)(g m:Nat)(e:Ending)(w':World):Prop:=∃ s:ByteArray,e=.returned (.string s)∧s.size≤m∧DCur w0 w' g∧w.grownBy w' (some g)
theorem zav{a w:World}{row:Option Nat}(h:a.grownBy w row)(o:Obj):a.grownBy (w.alloc o) row:=by
 have:=h.size;exact⟨h.os,h.tape,h.output,by simp;omega,fun k hk hr=>(Below.heap_alloc w o k (by omega)).trans (h.block k hk hr)⟩
theorem zaN{a w w':World}{row row2:Option Nat}(h:a.grownBy w row)(hg:w.grownBy w' row2)(hy:∀ k,row2=some k→a.heap.size≤k):a.grownBy w' row:=by
 have:=h.size;exact⟨hg.os.trans h.os,hg.tape.trans h.tape,hg.output.trans h.output,nT h.size hg.size,fun k hk hr=>(hg.block k (by omega) (fun e=>by have:=hy k e.symm;omega)).trans (h.block k hk hr)⟩
theorem zg7(w0 w:World)(g:Nat)(h:DCur w0 w g) :
 Calls Tryz.prog 124 #[.pointer (some ⟨g,0,none⟩)] w fun e w'=>TextD w0 w g 9 e w':=by
 obtain⟨i0,hi,hz0,hz1,hz2⟩:=info_parts Tryz.info5;have hlt:=h.lt;have hst:=zcB w;have hdc:=h.alloc (.cells #[] 5);have hgr:=zav (zaY w (some g)) (.cells #[] 5);go_enter Tryz.func124,Tryz.ntmps124
 go_wp2_with fail
 refine(zB w0 _ g 8 hdc (by omega) (by omega)).mono ?_;rintro e w1 ⟨x,rfl,hx0,hx1,hc,hg⟩;have ho1:Own w1 w.heap.size _ []:=zl hst hg (fun k hk e=>by have:=(oL hst k hk).1;simp at e;omega);have hgr1:=zq hgr hg;clear hst hdc hgr h hg;go_wp2;go_loopw [3,4] (fun oo nn wr=>∃ (m:Nat) (ys:List UInt8),nn=.int .i64 m∧ys.length+m≤8∧Own wr w.heap.size oo ys∧DCur w0 wr g∧w.grownBy wr (some g)) (fun _ nn _=>(intOf nn).toNat)
 case atStart =>
  obtain⟨m,rfl⟩:=Int.eq_ofNat_of_zero_le hx0;exact⟨m,[],rfl,by simp;omega,ho1,hc,hgr1⟩
 case round =>
  obtain⟨m,ys,rfl,hym,ho,hdc,hgw⟩:=hrel;clear ho1 hc hgr1;have hs:=hgw.size;by_cases hm:0<m
  ·go_wp2_with fail
   refine(zB w0 _ g 4 hdc (by omega) (by omega)).mono ?_;rintro e w2 ⟨y,rfl,hy0,hy1,hc2,hg2⟩;have ho2:Own w2 w.heap.size _ ys:=zl ho hg2 (fun k hk e=>by have:=(oL ho k hk).1;simp at e;omega);have hgw2:=zq hgw hg2;have hs2:=hg2.size;clear ho hdc hgw hg2;go_wp2_with (at_builtin;(refine wpList_append_own _ rfl _ _ 22 rfl w.heap.size 5 i0 (.int .u8 0) 1 1 Tryz.underlying22 hi hz0 hz1 hz2 rfl (by decide) _ _ _ rfl (World.ownsRow.alloc ho2 _) ⟨w2.heap.size,0,none⟩ 1 1 [.int .u8 (97+y)] rfl rfl ?c1 ?c2 ?c3 ?c4 ?c5 ?_))
   case c1=>exact zex _ _ _
   case c2=>intro u hu;simp at hu;subst hu;rfl
   case c3=>unfold maxLen;omega
   case c4=>omega
   case c5=>simp;omega
   intro v' w3 hown' hgrow _;have R1:=zd2 _ (zj5 (97+y) (by omega) (by omega)) hown';have R2:=(hc2.alloc _).grow hgrow (fun k hk=>by have:=(oL ho2 k hk).1;omega);have R3:=zaN (zav hgw2 _) hgrow (fun k hk=>(oL ho2 k hk).1);clear hown' hgrow ho2 hc2 hgw2;go_wp2;go_roundw
   case rel=>exact⟨m-1,_,by go_num,by rw[lA];simp;omega,R1,R2,R3⟩
   case measure=>simp[intOf];omega
  ·have hm0:m=0:=(by omega);subst hm0;go_wp2_with fail
   refine(za6 w0 _ g 6 hdc (by omega) (by omega)).mono ?_;rintro e w2 ⟨b,rfl,hc2,hg2⟩;have ho2:Own w2 w.heap.size _ ys:=zl ho hg2 (fun k hk e=>by have:=(oL ho k hk).1;simp at e;omega);have hgw2:=zq hgw hg2;have hs2:=hg2.size;clear ho hdc hgw hg2;cases b
   ·have hcv:=zcv ho2;go_wp2;go_ret;exact⟨_,rfl,by show ys.toArray.size≤9;simp;omega,hc2,hgw2⟩
   ·go_wp2_with fail
    refine(zci w0 _ g hc2).mono ?_;rintro e w3 ⟨y,rfl,hy0,hy1,hc3,hg3⟩;have ho3:Own w3 w.heap.size _ ys:=zl ho2 hg3 (fun k hk e=>by have:=(oL ho2 k hk).1;simp at e;omega);have hgw3:=zq hgw2 hg3;have hs3:=hg3.size;clear ho2 hc2 hgw2 hg3;go_wp2_with (at_builtin;(refine wpList_append_own _ rfl _ _ 22 rfl w.heap.size 5 i0 (.int .u8 0) 1 1 Tryz.underlying22 hi hz0 hz1 hz2 rfl (by decide) _ _ _ rfl (World.ownsRow.alloc ho3 _) ⟨w3.heap.size,0,none⟩ 1 1 [.int .u8 y] rfl rfl ?d1 ?d2 ?d3 ?d4 ?d5 ?_))
    case d1=>exact zex _ _ _
    case d2=>intro u hu;simp at hu;subst hu;rfl
    case d3=>unfold maxLen;omega
    case d4=>omega
    case d5=>simp;omega
    intro v' w4 hown' hgrow _;have R1:=zd2 _ (zj5 y (by omega) (by omega)) hown';have R2:=(hc3.alloc _).grow hgrow (fun k hk=>by have:=(oL ho3 k hk).1;omega);have R3:=zaN (zav hgw3 _) hgrow (fun k hk=>(oL ho3 k hk).1);have hcv:=zcv R1;have hyl:(ys++[UInt8.ofNat y.toNat]).length≤9:=(by rw[lA];simp;omega);generalize ys++[UInt8.ofNat y.toNat]=zs at R1 hcv hyl;clear hown' hgrow ho3 hc3 hgw3;go_wp2;go_ret;exact⟨_,rfl,by show zs.toArray.size≤9;simpa using hyl,R2,R3⟩
end Go.Proofs.YtjlnchhgkfnldaaGreat
