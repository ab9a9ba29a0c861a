import Derived.Test.YtannfbpohhnnkaaGreatDoorG28
import Derived.Deep.RegionHeld3
namespace Go.Proofs.YtannfbpohhnnkaaGreatDoor
set_option maxHeartbeats 16000000
set_option maxRecDepth 100000
open Go.RowKit
def zdF(seq:Int)(ss:List Int)(i:Nat):Bool:=decide (0≤ss.getD i 0)&&decide (ss.getD i 0≤seq)&&(decide (i=0)||decide (ss.getD (i-1) 0<ss.getD i 0))
theorem zmT{seq:Int}{ss:List Int}{i:Nat}(hi:i<ss.length)(h:zdF seq ss i=false):zao seq ss=false:=by
 unfold zao;rw[List.all_eq_false];exact⟨i,List.mem_range.2 hi,by show ¬ zdF seq ss i=true;rw[h];simp⟩
theorem zp6{seq:Int}{ss:List Int}(h:∀ i,i<ss.length→zdF seq ss i=true):zao seq ss=true:=by
 unfold zao;rw[List.all_eq_true];intro i hi;exact h i (List.mem_range.1 hi)
theorem getD_at{ss:List Int}{i:Nat}(h:i<ss.length):ss.getD i 0=ss[i]:=by simp[List.getD,List.getElem?_eq_getElem h]
theorem top_no{all:List Ent}{seq:Int}{i:Nat}(hi:i<all.length)(h:¬ (nth all i).seq≤seq):all.all (fun e=>decide (e.seq≤seq))=false:=by
 rw[List.all_eq_false];exact⟨nth all i,by rw[zE hi];exact List.getElem_mem hi,by simp;omega⟩
theorem top_yes{all:List Ent}{seq:Int}(h:∀ i,i<all.length→(nth all i).seq≤seq):all.all (fun e=>decide (e.seq≤seq))=true:=by
 rw[List.all_eq_true];intro e he;obtain⟨i,hi,rfl⟩:=List.mem_iff_getElem.1 he;have:=h i hi;rw[zE hi] at this;simpa using this
open Go.RowKit
def zbM(T:Tre):Bool:=decide (T.mem.length≠0)&&decide (T.young.length≠6)
def zc1(T:Tre):Tre:=if zai T=true then (if zbM T=true then zh6 T else T) else zey
def zfR(T:Tre):Bool:=zai T&&zbM T
open Go.RowKit
def zc9(T:Tre):Bool:=decide (T.young.length≠0)&&decide ((zk (tabL T)).length≤300)
def sinkR(T:Tre):Tre:=if zai T=true then (if zc9 T=true then sinkT T else T) else zey
def sinkO(T:Tre):Bool:=zai T&&zc9 T
theorem tabL_tl{ys os:List TV}{T:Tre}(h1:ys.map (·.T)=T.young)(h2:os.map (·.T)=T.old):tl ys ys.length++tl os os.length=tabL T:=by
 rw[tl_all,tl_all];unfold tabL;rw[← h1,← h2,List.map_append,List.map_map,List.map_map];rfl
end Go.Proofs.YtannfbpohhnnkaaGreatDoor
namespace Go.Proofs.YtannfbpohhnnkaaGreatDoor
set_option maxHeartbeats 16000000
set_option maxRecDepth 100000
open Go.RowKit
open Go.RowKit
def FitsW(x:Wri):Prop:=x.key.size≤4503599627370496∧x.val.size≤4503599627370496
def zC(xs:List Wri):Bool:=decide (xs.length≤20)&&xs.all wriOk
def BoxW(w:World)(b:Nat)(x:Wri):Prop:=w.cell? ⟨b,0,none⟩=some (.string x.key)∧w.cell? ⟨b,1,none⟩=some (.string x.val)∧w.cell? ⟨b,2,none⟩=some (.bool x.gone)
theorem zd1(w:World)(x:Wri)(t:TypeId):BoxW (w.alloc (.cells #[.string x.key,.string x.val,.bool x.gone] t)) w.heap.size x:=by
 refine⟨?_,?_,?_⟩<;>simp[World.cell?_alloc_at]
theorem zfP{xs:List Wri}{k:Nat}(hk:k<xs.length)(h:(xs.take k).all wriOk=true)(hx:wriOk (nthW xs k)=true):(xs.take (k+1)).all wriOk=true:=by
 rw[List.take_succ_eq_append_getElem hk,List.all_append,h,← zdE hk];simp[hx]
theorem zkU{xs:List Wri}{k:Nat}(hk:k<xs.length)(hx:wriOk (nthW xs k)=false):xs.all wriOk=false:=by
 rw[Bool.eq_false_iff];intro h;rw[List.all_eq_true] at h;have:=h (nthW xs k) (by rw[zdE hk];exact List.getElem_mem hk);rw[hx] at this;cases this
theorem zhK(v:Value)(xs:List Wri)(w:World)(hr:RdW w v xs)(hf:∀ x∈xs,FitsW x) :
 Calls Tryz.prog 123 #[v] w fun e w'=>e=.returned (.bool (zC xs))∧Below w.heap.size w w':=by
 obtain⟨a,cap,hv,hl,hm,_⟩:=id hr;unfold maxLen at hm;obtain⟨n,hn⟩:∃ n,n=xs.length:=⟨_,rfl⟩;rw[← hn] at hv hl;have HN:Hid (n=xs.length):=hn;have HF:Hid (∀ x∈xs,FitsW x):=hf;subst hv;clear hn hf;by_cases hbig:20<n
 ·have END:Hid (zC xs=false):=by unfold Hid zC;rw[decide_eq_false (by rw[← HN.out];omega)];rfl
  go_enter Tryz.func123,Tryz.ntmps123
  go_wp2;go_ret;exact⟨by rw[END.out];rfl,Below.refl _ _⟩
 ·have HB:Hid (∀ b,xs.all wriOk=b→zC xs=b):=fun b h=>by unfold zC;rw[decide_eq_true (by rw[← HN.out];omega),h];rfl
  go_enter Tryz.func123,Tryz.ntmps123
  go_wp2;go_loopw [3] (fun i wr=>∃ k:Nat,k≤n∧i=.int .i64 k∧Hid ((xs.take k).all wriOk=true)∧Below w.heap.size w wr) (fun i _=>n-(intOf i).toNat)
  case atStart=>exact⟨0,Nat.zero_le _,rfl,rfl,Below.refl _ _⟩
  case round =>
   obtain⟨k,hk,rfl,HA,hb⟩:=hrel;by_cases hlt:k<n
   ·have hkl:k<xs.length:=by rw[← HN.out];exact hlt
    have hkc:k<cap:=by omega
    obtain⟨b,off,rfl,hc⟩:=(hr.below hb).at HN.out k hkl;have hfx:=HF.out (nthW xs k) (by rw[zdE hkl];exact List.getElem_mem hkl);have HM:Hid (wriOk (nthW xs k)=true→(xs.take (k+1)).all wriOk=true):=fun h=>zfP hkl HA.out h
    have HNO:Hid (wriOk (nthW xs k)=false→zC xs=false):=fun h=>HB.out false (zkU hkl h)
    generalize nthW xs k=x at hc hfx HM HNO;obtain⟨c0,c1,c2⟩:=hc;have HE:Hid (∀ W,Calls Tryz.prog 144 #[.agg #[.string x.key,.string x.val,.int .i64 1,.bool x.gone]] W fun e w'=>e=.returned (.bool (wriOk x))∧Below W.heap.size W w'):=fun W=>zej (wriE x 1) W ⟨hfx.1,hfx.2,by show (-9223372036854775808:Int)≤1;omega,by show (1:Int)≤9223372036854775807;omega⟩
    have hx1:=zd1 wr x 77;have bb:=hb.alloc hb.size (.cells #[.string x.key,.string x.val,.bool x.gone] 77);obtain⟨d0,d1,d2⟩:=id hx1;clear hkl hfx;go_wp2_with fail
    refine(HE.out _).mono ?_;rintro e w1 ⟨rfl,hb1⟩;have b1:=bb.trans (hb1.mono bb.size);clear hx1 d0 d1 d2 bb hb1 hb HA;cases hwx:wriOk x with
    | false =>
     have END:Hid (zC xs=false):=HNO.out hwx;clear HM HNO HE hwx;go_wp2;go_ret;exact⟨by rw[END.out];rfl,b1⟩
    | true =>
     have HA2:Hid ((xs.take (k+1)).all wriOk=true):=HM.out hwx;clear HM HNO HE hwx;go_wp2;go_roundw
     case rel=>exact⟨k+1,by omega,by go_num,HA2,b1⟩
     case measure=>simp[intOf];omega
   ·have hke:k=n:=by omega
    have END:Hid (zC xs=true):=HB.out true (by have:=HA.out;rwa [hke,HN.out,List.take_length] at this);clear hke HA;go_wp2;go_ret;exact⟨by rw[END.out];rfl,hb⟩
theorem zgY(x:Wri)(s:Int)(w:World) :
 Calls Tryz.prog 126 #[.agg #[.string x.key,.string x.val,.bool x.gone],.int .i64 s] w fun e w'=>e=.returned (.agg #[.string x.key,.string x.val,.int .i64 s,.bool x.gone])∧Below w.heap.size w w':=by
 go_enter Tryz.func126,Tryz.ntmps126
 go_wp2;refine bodyPost_ret (v:=.agg #[.string x.key,.string x.val,.int .i64 s,.bool x.gone]) (by simp[results,Tryz.results126,go_sem]) rfl ⟨rfl,?_⟩;exact zbp _ _ _
end Go.Proofs.YtannfbpohhnnkaaGreatDoor
