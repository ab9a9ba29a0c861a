import Derived.Test.YtannfbpohhnnkaaGreatDoorG30
import Derived.Lib.AppendZeros
namespace Go.Proofs.YtannfbpohhnnkaaGreatDoor
set_option maxHeartbeats 16000000
set_option maxRecDepth 100000
open Go.RowKit
def zep(ss:List Int)(k:Nat):Int:=if k=0 then -1 else ss.getD (k-1) 0
theorem znv{seq:Int}{ss:List Int}{k:Nat}{x p:Int}(hx:ss.getD k 0=x)(hp:p=zep ss k)(h:x≤p):zdF seq ss k=false:=by
 unfold zdF;rw[hx];unfold zep at hp;by_cases hk:k=0
 ·rw[if_pos hk] at hp;rw[decide_eq_false (show ¬ (0:Int)≤x by omega)];rfl
 ·rw[if_neg hk] at hp;rw[decide_eq_false hk,decide_eq_false (show ¬ ss.getD (k-1) 0<x by omega)];simp
theorem znT{seq:Int}{ss:List Int}{k:Nat}{x:Int}(hx:ss.getD k 0=x)(h:seq<x):zdF seq ss k=false:=by
 unfold zdF;rw[hx,decide_eq_false (show ¬ x≤seq by omega)];simp
theorem zn5{seq:Int}{ss:List Int}{k:Nat}{x p:Int}(hx:ss.getD k 0=x)(hp:p=zep ss k)(h0 : -1≤p)(h:¬ x≤p)(h2:¬ seq<x):zdF seq ss k=true:=by
 unfold zdF;rw[hx,decide_eq_true (show (0:Int)≤x by omega),decide_eq_true (show x≤seq by omega)];unfold zep at hp;by_cases hk:k=0
 ·rw[decide_eq_true hk];rfl
 ·rw[if_neg hk] at hp;rw[decide_eq_true (show ss.getD (k-1) 0<x by omega)];simp
theorem zjj(v:Value)(ss:List Int)(seq:Int)(w:World)(hr:RdI w v ss) :
 Calls Tryz.prog 150 #[v,.int .i64 seq] w fun e w'=>e=.returned (.bool (decide (ss.length≤10)&&zao seq ss))∧Below w.heap.size w w':=by
 obtain⟨a,cap,hv,hl,hm,_⟩:=id hr;obtain⟨nn,hnn⟩:∃ nn,nn=ss.length:=⟨_,rfl⟩;have HNN:Hid (nn=ss.length):=hnn;rw[← hnn] at hv hl ⊢;subst hv;unfold maxLen at hm;clear hnn;by_cases h10:10<nn
 ·have RES:Hid ((decide (nn≤10)&&zao seq ss)=false):=by unfold Hid;rw[decide_eq_false (show ¬ nn≤10 by omega)];rfl
  have h10i:(10:Int)<(nn:Int):=by omega
  go_enter Tryz.func150,Tryz.ntmps150
  go_wp2;go_ret;exact⟨zF RES.out.symm,Below.refl _ _⟩
 ·have h10i:¬ (10:Int)<(nn:Int):=by omega
  have RES:Hid ((decide (nn≤10)&&zao seq ss)=zao seq ss):=by unfold Hid;rw[decide_eq_true (show nn≤10 by omega)];rfl
  rw[RES.out];clear RES;go_enter Tryz.func150,Tryz.ntmps150
  go_wp2;go_loopw [5,13] (fun ah i wr=>∃ (k:Nat) (p:Int),k≤nn∧i=.int .i64 k∧ah=.int .i64 p∧-1≤p∧Hid (p=zep ss k)∧Hid (∀ j,j<k→zdF seq ss j=true)∧Below w.heap.size w wr) (fun _ i _=>nn-(intOf i).toNat)
  case atStart=>exact⟨0,-1,Nat.zero_le _,rfl,rfl,by omega,rfl,(fun j h=>by omega),Below.refl _ _⟩
  case round =>
   obtain⟨k,p,hk,rfl,rfl,hp1,HP,HH,hb⟩:=hrel;by_cases hlt:k<nn
   ·have hkl:k<ss.length:=by rw[← HNN.out];exact hlt
    obtain⟨b,off,rfl,hc⟩:=(hr.below hb).at k hkl;obtain⟨x,hxx⟩:∃ x,x=ss[k]:=⟨_,rfl⟩;rw[← hxx] at hc;have hgx:ss.getD k 0=x:=by rw[hxx];exact getD_at hkl
    have hkc:k<cap:=by omega
    by_cases h1:x≤p
    ·skip
     have RES:Hid (zao seq ss=false):=zmT hkl (znv hgx HP.out h1);clear hxx hgx hkl HH;go_wp2;go_ret;exact⟨zF RES.out.symm,hb⟩
    ·by_cases h2:seq<x
     ·skip
      have RES:Hid (zao seq ss=false):=zmT hkl (znT hgx h2);clear hxx hgx hkl HH;go_wp2;go_ret;exact⟨zF RES.out.symm,hb⟩
     ·skip
      have HH2:Hid (∀ j,j<k+1→zdF seq ss j=true):=fun j hj=>by
       by_cases e:j=k
       ·rw[e];exact zn5 hgx HP.out hp1 h1 h2
       ·exact HH.out j (by omega)
      have HP2:Hid (x=zep ss (k+1)):=by unfold Hid zep;rw[if_neg (by omega)];exact hgx.symm
      clear hxx hgx hkl HH HP;go_wp2;go_roundw
      case rel=>exact⟨k+1,x,by omega,by go_num,rfl,by omega,HP2,HH2,hb⟩
      case measure=>simp[intOf];omega
   ·skip
    have RES:Hid (zao seq ss=true):=zp6 (fun i hi=>HH.out i (by have:=HNN.out;omega));go_wp2;go_ret;exact⟨zF RES.out.symm,hb⟩
theorem zly(vm vl:Value)(mem l:List Ent)(w:World)(hm:RdE w vm mem)(hl:RdE w vl l)(hok:okL l=true) :
 Calls Tryz.prog 154 #[vm,vl] w fun e w'=>e=.returned (.bool (newIn mem l))∧Below w.heap.size w w':=by
 obtain⟨a,cap,hv,hla,hma,_⟩:=id hm;obtain⟨nn,hnn⟩:∃ nn,nn=mem.length:=⟨_,rfl⟩;have HNN:Hid (nn=mem.length):=hnn;rw[← hnn] at hv hla;subst hv;unfold maxLen at hma;have HS:Hid (∀ key W,RdE W vl l→Calls Tryz.prog 204 #[vl,.string key,.int .i64 1000000] W fun e w'=>zd5 W (seenL l key 1000000) e w'):=fun key W h=>znC vl l key 1000000 W h hok
 clear hnn;go_enter Tryz.func154,Tryz.ntmps154
 go_wp2;go_loopw [11] (fun i wr=>∃ k:Nat,k≤nn∧i=.int .i64 k∧Hid (∀ j,j<k→newAt l (nth mem j)=true)∧Below w.heap.size w wr) (fun i _=>nn-(intOf i).toNat)
 case atStart=>exact⟨0,Nat.zero_le _,rfl,(fun j h=>by omega),Below.refl _ _⟩
 case round =>
  obtain⟨k,hk,rfl,HH,hb⟩:=hrel;by_cases hlt:k<nn
  ·have hkl:k<mem.length:=by rw[← HNN.out];exact hlt
   obtain⟨b,off,rfl,hc⟩:=(hm.below hb).at HNN.out k hkl;obtain⟨x,hx⟩:∃ x,x=nth mem k:=⟨_,rfl⟩;rw[← hx] at hc;obtain⟨c0,c1,c2,c3⟩:=id hc;have hkc:k<cap:=by omega
   have hbx:=zfj wr x 94;have b1:=za wr (.cells #[.string x.key,.string x.val,.int .i64 x.seq,.bool x.gone] 94);have bw1:=hb.trans (b1.mono hb.size);have HC:Hid (Calls _ _ _ _ _):=HS.out x.key _ (hl.below bw1);have HN:Hid (seenL l x.key 1000000=none→newAt l (nth mem k)=true):=fun h=>by rw[← hx];exact zid h
   have HY:Hid (∀ y,seenL l x.key 1000000=some y→newAt l (nth mem k)=decide (y.seq<x.seq)):=fun y h=>by rw[← hx];exact zio h
   have HX:Hid (newAt l (nth mem k)=false→newIn mem l=false):=fun h=>newIn_no hkl h
   clear hx hkl;generalize seenL l x.key 1000000=o at HC HN HY;cases o with
   | none =>
    have HH2:Hid (∀ j,j<k+1→newAt l (nth mem j)=true):=fun j hj=>by
     by_cases e:j=k
     ·rw[e];exact HN.out rfl
     ·exact HH.out j (by omega)
    go_wp2_with fail
    refine HC.out.mono ?_;rintro e w2 ⟨he,hb2⟩;obtain rfl:e=.returned (.tuple #[.agg #[.string ⟨#[]⟩,.string ⟨#[]⟩,.int .i64 0,.bool false],.bool false]):=he;have hx2:=hbx.below hb2;have b2:=bw1.trans (hb2.mono bw1.size);obtain⟨d0,d1,d2,d3⟩:=id hx2;clear HC HN HY HX hbx b1 bw1 c0 c1 c2 c3 hc hb hb2;go_wp2;go_roundw
    case rel=>exact⟨k+1,by omega,by go_num,HH2,b2.alloc b2.size _⟩
    case measure=>simp[intOf];omega
   | some y =>
    by_cases hlt2:y.seq<x.seq
    ·skip
     have HH2:Hid (∀ j,j<k+1→newAt l (nth mem j)=true):=fun j hj=>by
      by_cases e:j=k
      ·rw[e,HY.out y rfl];exact decide_eq_true hlt2
      ·exact HH.out j (by omega)
     go_wp2_with fail
     refine HC.out.mono ?_;rintro e w2 ⟨he,hb2⟩;obtain rfl:e=.returned (.tuple #[.agg #[.string y.key,.string y.val,.int .i64 y.seq,.bool y.gone],.bool true]):=he;have hx2:=hbx.below hb2;have b2:=bw1.trans (hb2.mono bw1.size);have bb3:=za w2 (.cells #[.string y.key,.string y.val,.int .i64 y.seq,.bool y.gone] 94);obtain⟨d0,d1,d2,d3⟩:=hx2.below bb3;obtain⟨e0,e1,e2,e3⟩:=zfj w2 y 94;have hge:¬ x.seq≤y.seq:=by omega
     clear HC HN HY HX hbx b1 bw1 c0 c1 c2 c3 hc hb hb2 bb3;go_wp2;go_roundw
     case rel=>exact⟨k+1,by omega,by go_num,HH2,b2.alloc b2.size _⟩
     case measure=>simp[intOf];omega
    ·skip
     have RES:Hid (newIn mem l=false):=HX.out (by rw[HY.out y rfl];exact decide_eq_false hlt2);go_wp2_with fail
     refine HC.out.mono ?_;rintro e w2 ⟨he,hb2⟩;obtain rfl:e=.returned (.tuple #[.agg #[.string y.key,.string y.val,.int .i64 y.seq,.bool y.gone],.bool true]):=he;have hx2:=hbx.below hb2;have b2:=bw1.trans (hb2.mono bw1.size);have bb3:=za w2 (.cells #[.string y.key,.string y.val,.int .i64 y.seq,.bool y.gone] 94);obtain⟨d0,d1,d2,d3⟩:=hx2.below bb3;obtain⟨e0,e1,e2,e3⟩:=zfj w2 y 94;have hge:x.seq≤y.seq:=by omega
     clear HC HN HY HX hbx b1 bw1 c0 c1 c2 c3 hc hb hb2 bb3;go_wp2;go_ret;exact⟨zF RES.out.symm,b2.alloc b2.size _⟩
  ·skip
   have RES:Hid (newIn mem l=true):=zqQ (fun i hi=>HH.out i (by have:=HNN.out;omega));go_wp2;go_ret;exact⟨zF RES.out.symm,hb⟩
theorem past_no{ls:List (List Ent)}{k:Nat}{l:List Ent}{q:Int}(h:ls[k]? = some l){i:Nat}(hi:i<l.length)(hn:q<(nth l i).seq):past ls q=false:=by
 unfold past;rw[List.all_eq_false];refine⟨l,List.mem_of_getElem? h,?_⟩;rw[top_no hi (by omega)];simp
theorem past_yes{ls:List (List Ent)}{q:Int}(h:∀ (k:Nat) (l:List Ent),ls[k]? = some l→∀ i,i<l.length→(nth l i).seq≤q):past ls q=true:=by
 unfold past;rw[List.all_eq_true];intro l hl;obtain⟨k,hk,rfl⟩:=List.getElem_of_mem hl;exact top_yes (h k _ (List.getElem?_eq_getElem hk))
theorem zhY(v:Value)(ps:List (Value×List Ent))(seq:Int)(w:World)(hp:Pieces w v ps) :
 Calls Tryz.prog 155 #[v,.int .i64 seq] w fun e w'=>e=.returned (.bool (past (ps.map (·.2)) seq))∧Below w.heap.size w w':=by
 obtain⟨a,cap,hv,hla,hma,hat⟩:=hp.at;obtain⟨ls,hls⟩:∃ ls,ls=ps.map (·.2):=⟨_,rfl⟩;have hln:ls.length=ps.length:=by rw[hls,List.length_map]
 rw[← hls] at hat ⊢;obtain⟨nn,hnn⟩:∃ nn,nn=ps.length:=⟨_,rfl⟩;rw[← hnn] at hv hla hat hln;have AT:Hid (∀ k,k<nn→_):=hat;have HLN:Hid (ls.length=nn):=hln;unfold maxLen at hma;subst hv;clear hat hln hnn hls hp;go_enter Tryz.func155,Tryz.ntmps155
 go_wp2;go_loopw [11] (fun i wr=>∃ k:Nat,k≤nn∧i=.int .i64 k∧Hid (∀ (j:Nat) (l:List Ent),j<k→ls[j]? = some l→∀ i,i<l.length→(nth l i).seq≤seq)∧Below w.heap.size w wr) (fun i _=>nn-(intOf i).toNat)
 case atStart=>exact⟨0,Nat.zero_le _,rfl,(fun j l h=>absurd h (Nat.not_lt_zero _)),Below.refl _ _⟩
 case round =>
  obtain⟨k,hk,rfl,HH,hb⟩:=hrel;by_cases hlt:k<nn
  ·obtain⟨b,off,aa,zn,cc,zs,rfl,hc,hrz,hlz⟩:=AT.out k hlt wr hb;have HLZ:Hid (ls[k]? = some zs):=hlz;have hkc:k<cap:=by omega
   obtain⟨a2,c2,hv2,hl2,hm2,_⟩:=id hrz;simp only[Value.slice.injEq] at hv2;obtain⟨e1,e2,e3⟩:=hv2;have HZN:Hid (zn=zs.length):=e2;subst e1;subst e3;rw[← e2] at hl2;unfold maxLen at hm2;clear hlz e2;go_wp2;go_loopw [17] (fun i wr2=>∃ j:Nat,j≤zn∧i=.int .i64 j∧Hid (∀ i,i<j→(nth zs i).seq≤seq)∧Below wr.heap.size wr wr2) (fun i _=>zn-(intOf i).toNat)
   case atStart=>exact⟨0,Nat.zero_le _,rfl,(fun j h=>by omega),Below.refl _ _⟩
   case round =>
    obtain⟨j,hj,rfl,HJ,hb2⟩:=hrel;by_cases hlj:j<zn
    ·have hjl:j<zs.length:=by rw[← HZN.out];exact hlj
     obtain⟨b2,off2,rfl,hc2⟩:=(hrz.below hb2).at HZN.out j hjl;obtain⟨y,hy⟩:∃ y,y=nth zs j:=⟨_,rfl⟩;rw[← hy] at hc2;obtain⟨d0,d1,d2,d3⟩:=id hc2;have hjc:j<cc:=by omega
     by_cases hgt:seq<y.seq
     ·skip
      have RES:Hid (past ls seq=false):=past_no HLZ.out hjl (by rw[← hy];exact hgt);clear hy hjl;go_wp2;go_ret;exact⟨zF RES.out.symm,(hb.trans (hb2.mono hb.size)).alloc (hb.trans (hb2.mono hb.size)).size _⟩
     ·skip
      have HJ2:Hid (∀ i,i<j+1→(nth zs i).seq≤seq):=fun i hi=>by
       by_cases e:i=j
       ·rw[e,← hy];omega
       ·exact HJ.out i (by omega)
      clear hy hjl HJ;go_wp2;go_roundw
      case rel=>exact⟨j+1,by omega,by go_num,HJ2,hb2.alloc hb2.size _⟩
      case measure=>simp[intOf];omega
    ·skip
     have HH2:Hid (∀ (i:Nat) (l:List Ent),i<k+1→ls[i]? = some l→∀ i,i<l.length→(nth l i).seq≤seq):=fun i l hi hl=>by
      by_cases e:i=k
      ·rw[e,HLZ.out] at hl;rw[← Option.some.inj hl];exact fun i hi=>HJ.out i (by have:=HZN.out;omega)
      ·exact HH.out i l (by omega) hl
     have b3:=hb.trans (hb2.mono hb.size);clear HJ HH hb hb2;go_wp2;go_roundw
     case rel=>exact⟨k+1,by omega,by go_num,HH2,b3⟩
     case measure=>simp[intOf];omega
  ·skip
   have RES:Hid (past ls seq=true):=past_yes (fun j l hl=>HH.out j l (by have:=(List.getElem?_eq_some_iff.1 hl).1;have:=HLN.out;omega) hl);go_wp2;go_ret;exact⟨zF RES.out.symm,hb⟩
theorem zqy{ls:List (List Ent)}{k:Nat}{l:List Ent}(h:ls[k]? = some l):lenS (ls.take (k+1))=lenS (ls.take k)+l.length:=by
 have hk:k<ls.length:=(List.getElem?_eq_some_iff.1 h).1;have hl:ls[k]=l:=(List.getElem?_eq_some_iff.1 h).2;unfold lenS;rw[List.take_succ_eq_append_getElem hk,List.map_append,List.sum_append,hl];simp
theorem zht(v:Value)(ps:List (Value×List Ent))(w:World)(hp:Pieces w v ps)(hn:ps.length≤20)(hok:∀ p∈ps,okL p.2=true) :
 Calls Tryz.prog 156 #[v] w fun e w'=>e=.returned (.bool (decide ((zk (ps.map (·.2))).length=lenS (ps.map (·.2)))))∧Below w.heap.size w w':=by
 obtain⟨a,cap,hv,hla,hma,hat⟩:=hp.at;have HM:Hid (∀ W,Below w.heap.size w W→Calls Tryz.prog 193 #[v] W fun e w'=>zdI W (zk (ps.map (·.2))) e w'):=fun W hb=>zc3 v ps W (hp.below hb) hn hok
 obtain⟨ls,hls⟩:∃ ls,ls=ps.map (·.2):=⟨_,rfl⟩;have hln:ls.length=ps.length:=by rw[hls,List.length_map]
 have HOK:Hid (∀ l∈ls,l.length≤300):=fun l hl=>by
  rw[hls] at hl;obtain⟨p,hp',rfl⟩:=List.mem_map.1 hl;exact zZ (hok p hp')
 have HML:Hid ((zk ls).length≤6000):=by
  have:=zke ps (fun p hp=>zZ (hok p hp));unfold Hid;rw[hls];omega
 rw[← hls] at hat HM ⊢;obtain⟨nn,hnn⟩:∃ nn,nn=ps.length:=⟨_,rfl⟩;rw[← hnn] at hv hla hat hln hn;have AT:Hid (∀ k,k<nn→_):=hat;have HLN:Hid (ls.length=nn):=hln;unfold maxLen at hma;subst hv;clear hat hln hnn hls hp hok;go_enter Tryz.func156,Tryz.ntmps156
 go_wp2;go_loopw [3,8] (fun s i wr=>∃ (k z:Nat),k≤nn∧i=.int .i64 k∧s=.int .i64 z∧z≤300*k∧Hid (z=lenS (ls.take k))∧Below w.heap.size w wr) (fun _ i _=>nn-(intOf i).toNat)
 case atStart=>exact⟨0,0,Nat.zero_le _,rfl,rfl,Nat.le_refl _,by unfold Hid;simp[lenS],Below.refl _ _⟩
 case round =>
  obtain⟨k,z,hk,rfl,rfl,hz,HZ,hb⟩:=hrel;by_cases hlt:k<nn
  ·obtain⟨b,off,aa,zn,cc,zs,rfl,hc,hrz,hlz⟩:=AT.out k hlt wr hb;have HLZ:Hid (ls[k]? = some zs):=hlz;have hzl:=HOK.out zs (List.mem_of_getElem? hlz);have hkc:k<cap:=by omega
   obtain⟨a2,c2,hv2,_⟩:=id hrz;simp only[Value.slice.injEq] at hv2;have HZN:Hid (zn=zs.length):=hv2.2.1;rw[← hv2.2.1] at hzl;have HZ2:Hid (z+zn=lenS (ls.take (k+1))):=by unfold Hid;rw[zqy HLZ.out,HZ.out,HZN.out]
   clear hlz hv2 hrz;go_wp2;go_roundw
   case rel=>exact⟨k+1,z+zn,by omega,by go_num,by go_num,by omega,HZ2,hb⟩
   case measure=>simp[intOf];omega
  ·skip
   have hke:k=nn:=by omega
   have HZ2:Hid (z=lenS ls):=by have:=HZ.out;rw[hke,← HLN.out,List.take_length] at this;exact this
   have hml:=HML.out;clear hke HZ;go_wp2_with fail
   refine(HM.out _ hb).mono ?_;rintro e w2 ⟨u,rfl,ho2,hb2⟩;have b2:=hb.trans (hb2.mono hb.size);obtain⟨a2,c2,hv2,-⟩:=id ho2.rd;obtain⟨m,hmm⟩:∃ m,m=(zk ls).length:=⟨_,rfl⟩;rw[← hmm] at hv2 hml;subst hv2;have HMM:Hid (m=(zk ls).length):=hmm;clear hmm ho2 hb2 hb HM AT;by_cases hmz:m=z
   ·have RES:Hid (decide ((zk ls).length=lenS ls)=true):=by unfold Hid;rw[← HMM.out,← HZ2.out];exact decide_eq_true hmz
    subst hmz;go_wp2;go_ret;exact⟨zF RES.out.symm,b2⟩
   ·have RES:Hid (decide ((zk ls).length=lenS ls)=false):=by unfold Hid;rw[← HMM.out,← HZ2.out];exact decide_eq_false hmz
    have hmi:((m:Int)==(z:Int))=false:=by rw[beq_eq_false_iff_ne];omega
    go_wp2;go_ret;exact⟨zF RES.out.symm,b2⟩
open Go.RowKit
theorem zln(x:Ent)(w:World)(h:okE x=true) :
 Calls Tryz.prog 253 #[.agg #[.string x.key,.string x.val,.int .i64 x.seq,.bool x.gone]] w fun e w'=>e=.returned (.int .i64 (stp x:Int))∧Below w.heap.size w w':=by
 obtain⟨_,_,_,h4,h5⟩:=zaE h;have hb0:=za w (.cells #[.string x.key,.string x.val,.int .i64 x.seq,.bool x.gone] 94);have hx0:=zad w x 94;obtain⟨c0,c1,c2,c3⟩:=id hx0;simp only[Nat.zero_add] at c1 c2 c3;have HS:Hid ((stp x:Int)=2*x.seq+(if x.gone=true then 1 else 0)):=by unfold Hid stp;split<;>omega
 cases hg:x.gone with
 | true =>
  rw[hg] at c3 hb0;have HT:Hid ((stp x:Int)=2*x.seq+1):=by have:=HS.out;rw[hg,if_pos rfl] at this;exact this
  clear HS hx0 h;go_enter Tryz.func253,Tryz.ntmps253
  go_wp2;go_ret;exact⟨by rw[HT.out];rfl,hb0⟩
 | false =>
  rw[hg] at c3 hb0;have HT:Hid ((stp x:Int)=2*x.seq):=by have:=HS.out;rw[hg,if_neg (by simp)] at this;rw[this];exact Int.add_zero _
  clear HS hx0 h;go_enter Tryz.func253,Tryz.ntmps253
  go_wp2;go_ret;exact⟨by rw[HT.out];rfl,hb0⟩
theorem zh5(n:Nat):(Builtin.zeroCells #[Value.int .u8 0] n).size=n:=by simp[Builtin.zeroCells]
theorem grow_any(n:Nat)(w:World)(h0:0<n)(h1:n≤1000000000) :
 Calls Tryz.prog 259 #[.slice none 0 0,.int .i64 (n:Int)] w fun e w'=>∃ u,e=.returned u∧Own w' w.heap.size u []∧Below w.heap.size w w':=by
 obtain⟨i0,hi,hz0,hz1,hz2⟩:=info_parts Tryz.info5;have hrun:=Lib.run_append_nil_zeros (P:=Tryz.prog) w 105 3 105 5 i0 (.int .u8 0) .i64 .i64 Tryz.underlying105 Tryz.underlying3 hi hz0 n h0 (by rw[hz1];decide) (by omega) (by rw[hz2];omega);have hge:=grownCap_ge w n 0 5;have hle:=grownCap_le_maxLen w n 0 5 (by unfold maxLen;omega);have HB:Hid (Below w.heap.size w (w.drew.alloc (.cells (Builtin.zeroCells #[Value.int .u8 0] n++Builtin.zeroCells #[Value.int .u8 0] (grownCap w n 0 5-n)) 5))):=(Below.refl _ _).drew.alloc (Nat.le_refl _) _;have HO:Hid (Own (w.drew.alloc (.cells (Builtin.zeroCells #[Value.int .u8 0] n++Builtin.zeroCells #[Value.int .u8 0] (grownCap w n 0 5-n)) 5)) w.heap.size (.slice (some ⟨w.heap.size,0,none⟩) 0 (grownCap w n 0 5)) []):=by
  refine⟨rfl,.inr ⟨w.heap.size,grownCap w n 0 5,_,rfl,Nat.le_refl _,(show (w.drew.heap.push _)[w.drew.heap.size]? = some _ from Array.getElem?_push_size),Nat.zero_le _,hle,?_,by simp[BV]⟩⟩;rw[Array.size_append,zh5,zh5];omega
 change (Builtin.append_ #[105,3] 105 #[.slice none 0 0,.int .i64 (n:Int)]).run Tryz.prog w=.ok (.slice (some ⟨w.heap.size,0,none⟩) n (grownCap w n 0 5)) (w.drew.alloc (.cells (Builtin.zeroCells #[Value.int .u8 0] n++Builtin.zeroCells #[Value.int .u8 0] (grownCap w n 0 5-n)) 5)) at hrun;generalize grownCap w n 0 5=cap at hrun hge hle HB HO;unfold maxLen at hle;go_enter Tryz.func259,Tryz.ntmps259
 go_wp2_with (at_builtin;refine Lib.wpList_append_run _ rfl _ _ _ _ rfl _ _ rfl rfl _ _ hrun ?_)
 go_ret;exact⟨_,rfl,HO.out,HB.out⟩
def catL(ps:List (Value×List UInt8)):List UInt8:=ps.flatMap (·.2)
theorem zkD{ps:List (Value×List UInt8)}{k:Nat}(h:k<ps.length):catL (ps.take (k+1))=catL (ps.take k)++ps[k].2:=by
 unfold catL;rw[List.take_succ_eq_append_getElem h,List.flatMap_append,List.flatMap_singleton]
theorem zpY(ps:List (Value×List UInt8))(k:Nat):(catL (ps.take k)).length≤(catL ps).length:=by
 have h:catL ps=catL (ps.take k)++catL (ps.drop k):=by unfold catL;rw[← List.flatMap_append,List.take_append_drop]
 rw[h,List.length_append];omega
theorem znB(ps:List (Value×List UInt8))(b off cap:Nat)(w:World)(hc:∀ i (h:i<ps.length),w.cell? ⟨b,off+i,none⟩=some ps[i].1)(ho:∀ p∈ps,∃ B,Own w B p.1 p.2)(hp:ps.length≤cap)(hm:cap≤1000000000)(h0:0<(catL ps).length)(h1:(catL ps).length≤1000000000) :
 Calls Tryz.prog 252 #[.slice (some ⟨b,off,none⟩) ps.length cap] w fun e w'=>∃ u,e=.returned u∧Own w' w.heap.size u (catL ps)∧Below w.heap.size w w':=by
 have HC:Hid (∀ i (h:i<ps.length),w.cell? ⟨b,off+i,none⟩=some ps[i].1):=hc;have HO:Hid (∀ p∈ps,∃ B,Own w B p.1 p.2):=ho;clear hc ho;go_enter Tryz.func252,Tryz.ntmps252
 go_wp2;go_loopw [3,11] (fun s i wr=>∃ k:Nat,k≤ps.length∧i=.int .i64 k∧s=.int .i64 ((catL (ps.take k)).length:Int)∧wr=w) (fun _ i _=>ps.length-(intOf i).toNat)
 case atStart=>exact⟨0,Nat.zero_le _,rfl,rfl,rfl⟩
 case round =>
  obtain⟨k,hk,rfl,rfl,hwr⟩:=hrel;obtain rfl:=hwr.symm;by_cases hlt:k<ps.length
  ·have hcell:=HC.out k hlt;obtain⟨B,hob⟩:=HO.out _ (List.getElem_mem hlt);obtain⟨aa,cc,hsh⟩:=hob.rd.shape;rw[hsh] at hcell;have HT:=congrArg List.length (zkD hlt);rw[List.length_append] at HT;have hle:=zpY ps (k+1);generalize ps[k].2.length=m at HT hcell;generalize hq:(catL (ps.take k)).length=q at HT ⊢;have hlq:(q:Int)+(m:Int)≤1000000000:=by omega
   have HQ:Hid ((q:Int)+(m:Int)=((catL (ps.take (k+1))).length:Int)):=by unfold Hid;rw[HT];omega
   clear HT hle hob hsh hq;go_wp2;go_roundw
   case rel=>exact⟨k+1,by omega,by go_num,by rw[← HQ.out],trivial⟩
   case measure=>simp[intOf];omega
  ·have hke:k=ps.length:=by omega
   subst hke;rw[List.take_length];go_wp2_with fail
   refine(grow_any _ _ h0 h1).mono ?_;rintro e w1 ⟨u1,rfl,ho1,hb1⟩;go_wp2;go_loopw [6,27] (fun v i wr=>∃ k:Nat,k≤ps.length∧i=.int .i64 k∧Own wr w.heap.size v (catL (ps.take k))∧Below w.heap.size w wr) (fun _ i _=>ps.length-(intOf i).toNat)
   case atStart=>exact⟨0,Nat.zero_le _,rfl,ho1,hb1⟩
   case round =>
    obtain⟨k,hk,rfl,hov,hbv⟩:=hrel;clear ho1 hb1;by_cases hlt:k<ps.length
    ·have hcell:=(hbv.cell (World.block_lt_of_cell? w _ (HC.out k hlt))).trans (HC.out k hlt);obtain⟨B,hob⟩:=HO.out _ (List.getElem_mem hlt);have hob2:=hob.below hbv;have HT:=zkD hlt;have hle:=zpY ps (k+1);rw[HT,List.length_append] at hle;generalize ps[k].1=u at hcell hob2;generalize ps[k].2=zs at HT hob2 hle;obtain⟨aa,cc,hsh⟩:=hob2.rd.shape;subst hsh;have HT2:Hid (catL (ps.take (k+1))=catL (ps.take k)++zs):=HT;clear hob HT;generalize catL (ps.take k)=ys at hov hle HT2;go_wp2_with (at_builtin;(refine zaW rfl _ _ rfl w.heap.size B _ _ ys zs rfl rfl hov hob2 (by omega) hbv.size ?_))
     intro v5 w5 ho5 hg5;have b5:=zat hbv hov hg5 hbv.size;rw[← HT2.out] at ho5;clear hov hob2 hbv hg5 hle;go_wp2;go_roundw
     case rel=>exact⟨k+1,by omega,by go_num,ho5,b5⟩
     case measure=>simp[intOf];omega
    ·have hke:k=ps.length:=by omega
     subst hke;rw[List.take_length] at hov;go_wp2;go_ret;exact⟨_,rfl,hov,hbv⟩
theorem znK{w:World}{ops:Array Oper}{o:Oper}{a:Act}{K:Act→World→Prop}{Q:Exit→Act→World→Prop}{E:Prop}(hgd:o.guard=none)(d:Nat)(hd:o.dst=some d)(cs:Array Value)(t:TypeId)(n:Nat)
 (hrun:(execOp a.eval o).run Tryz.prog w=.ok (.value (.slice (some ⟨w.heap.size,0,none⟩) n n)) (w.alloc (.cells cs t)))
 (h:∀ b W',Below w.heap.size w W'→w.heap.size≤b→(∀ j,W'.cell? ⟨b,j,none⟩=cs[j]?)→K (a.put (some d) (.slice (some ⟨b,0,none⟩) n n)) W') :
 if Region.wanted o (yielded ops a.tmps)=true then Oper.wp Tryz.prog o a w K Q else E:=by
 have hw:Region.wanted o (yielded ops a.tmps)=true:=by simp[Region.wanted,hgd]
 rw[if_pos hw];have h':=h w.heap.size _ (za w (.cells cs t)) (Nat.le_refl _) (fun j=>by simp);rw[← hd] at h';unfold Oper.wp;rw[hrun];exact h'
theorem zo6{W:World}{b:Nat}{x0 x1 x2 x3:Value×List UInt8}(h:∀ j,W.cell? ⟨b,j,none⟩ = #[x0.1,x1.1,x2.1,x3.1][j]?):∀ i (h:i < [x0,x1,x2,x3].length),W.cell? ⟨b,0+i,none⟩=some [x0,x1,x2,x3][i].1
 | 0,_=>h 0
 | 1,_=>h 1
 | 2,_=>h 2
 | 3,_=>h 3
theorem fourOwn{W:World}{B0 B1 B2 B3:Nat}{x0 x1 x2 x3:Value×List UInt8}(h0:Own W B0 x0.1 x0.2)(h1:Own W B1 x1.1 x1.2)(h2:Own W B2 x2.1 x2.2)(h3:Own W B3 x3.1 x3.2):∀ p∈[x0,x1,x2,x3],∃ B,Own W B p.1 p.2:=by
 intro p hp;simp only[List.mem_cons,List.not_mem_nil,or_false] at hp;rcases hp with rfl | rfl | rfl | rfl
 ·exact⟨_,h0⟩
 ·exact⟨_,h1⟩
 ·exact⟨_,h2⟩
 ·exact⟨_,h3⟩
theorem fourCat(x0 x1 x2 x3:Value×List UInt8):catL [x0,x1,x2,x3]=x0.2++(x1.2++(x2.2++x3.2)):=by simp[catL]
theorem zc6(last:ByteArray)(y:Ent)(w:World)(hls:last.size≤40)(hok:okE y=true) :
 Calls Tryz.prog 238 #[.string last,.agg #[.string y.key,.string y.val,.int .i64 y.seq,.bool y.gone]] w fun e w'=>∃ u,e=.returned u∧Own w' w.heap.size u (packE last y)∧Below w.heap.size w w':=by
 obtain⟨hy1,hy2,hy3,hy4,hy5⟩:=zaE hok;have HOY:Hid (okE y=true):=hok;have hst:=zoq hok;clear hok;have hx0:=zad w y 94;have b0:=za w (.cells #[.string y.key,.string y.val,.int .i64 y.seq,.bool y.gone] 94);have HE:Hid (packE last y=enc (com last y.key)++((enc (y.key.size-com last y.key)++y.key.data.toList.drop (com last y.key))++(enc (stp y)++(enc y.val.size++y.val.data.toList)))):=rfl;have hpl:=zeQ (last:=last) HOY.out;have hcl:=zjS last y.key;obtain⟨P,hP⟩:∃ P,P=packE last y:=⟨_,rfl⟩;rw[← hP] at HE hpl ⊢;clear hP;obtain⟨c0,c1,c2,c3⟩:=id hx0;simp only[Nat.zero_add] at c1 c2 c3;go_enter Tryz.func238,Tryz.ntmps238
 go_wp2_with fail
 refine(zee _ _ _ (by omega) (by omega)).mono ?_;rintro e w3 ⟨rfl,n3,rfl⟩;have hx3:EntAt ((w.alloc (.cells #[.string y.key,.string y.val,.int .i64 y.seq,.bool y.gone] 94)).drewN n3) w.heap.size 0 y:=hx0;have b3:=below_drewN b0 n3;generalize com last y.key=c at hcl HE ⊢;clear hx0 b0 c0 c1 c2 c3;generalize (w.alloc (.cells #[.string y.key,.string y.val,.int .i64 y.seq,.bool y.gone] 94)).drewN n3=W3 at hx3 b3 ⊢;obtain⟨hcl1,hcl2⟩:=hcl;obtain⟨kr,hkr⟩:∃ kr,kr=y.key.extract c y.key.size:=⟨_,rfl⟩;have hk1:kr.size≤40:=by rw[hkr,ByteArray.size_extract];omega
 have HK1:Hid (enc kr.size++kr.data.toList=enc (y.key.size-c)++y.key.data.toList.drop c):=by rw[hkr];exact zhH y.key c
 have N1:Hid (num (c:Int)=enc c):=zg2 _ (by omega) (by omega);have N2:Hid (za9 kr=enc kr.size++kr.data.toList):=zjp kr (by omega);have N3:Hid (num (stp y:Int)=enc (stp y)):=zg2 _ (by omega) (by omega);have N4:Hid (za9 y.val=enc y.val.size++y.val.data.toList):=zjp y.val (by omega);have HPc:Hid (P=num (c:Int)++(za9 kr++(num (stp y:Int)++za9 y.val))):=by unfold Hid;rw[N1.out,N2.out,N3.out,N4.out,HK1.out,HE.out]
 clear N1 N2 N3 N4 HK1 HE;go_wp2_with fail
 refine wp_region_noPanic ?_;refine wp_region_held_drew (S:=fun w'=>EntAt w' w.heap.size 0 y) (by kernel_rfl) hx3 (fun hH=>?_);have qb:=b3.drew;clear b3 hx3;revert hH qb;generalize W3.drew=W0;intro hH qb;refine kA 0 10 hH ?_;refine kA 2 12 hH ?_;refine kA 3 13 hH ?_;refine kA 4 14 hH ?_;refine kA 5 15 hH ?_;refine kA 7 17 hH ?_;refine kA 10 20 hH ?_;refine kA 11 21 hH ?_;rw[← hkr];clear hkr;refine rdy 1 (fun K hK=>?_);go_simp;refine(zaT _ _).mono ?_;rintro e w1 ⟨u1,rfl,ho1,hb1⟩;replace qb:=qb.trans (hb1.mono qb.size);replace hH:=hH.below hb1;refine hK.out _ _ hH (fun h4=>?_);clear hK K h4;try simp only[Act.put,sA,sZ,sS]
 refine rdy 6 (fun K hK=>?_);go_simp;refine(zdq kr _ (by omega)).mono ?_;rintro e w2 ⟨u2,rfl,ho2,hb2⟩;replace qb:=qb.trans (hb2.mono qb.size);replace hH:=hH.below hb2;replace ho1:=ho1.below hb2;refine hK.out _ _ hH (fun h4=>?_);clear hK K h4;try simp only[Act.put,sA,sZ,sS]
 refine rdy 8 (fun K hK=>?_);go_simp;refine(zln y _ HOY.out).mono ?_;rintro e w3 ⟨rfl,hb3⟩;replace qb:=qb.trans (hb3.mono qb.size);replace hH:=hH.below hb3;replace ho1:=ho1.below hb3;replace ho2:=ho2.below hb3;refine hK.out _ _ hH (fun h4=>?_);clear hK K h4;try simp only[Act.put,sA,sZ,sS]
 refine rdy 9 (fun K hK=>?_);go_simp;refine(zaT _ _).mono ?_;rintro e w4 ⟨u4,rfl,ho4,hb4⟩;replace qb:=qb.trans (hb4.mono qb.size);replace hH:=hH.below hb4;replace ho1:=ho1.below hb4;replace ho2:=ho2.below hb4;refine hK.out _ _ hH (fun h4=>?_);clear hK K h4;try simp only[Act.put,sA,sZ,sS]
 refine rdy 12 (fun K hK=>?_);go_simp;refine(zdq y.val _ (by omega)).mono ?_;rintro e w5 ⟨u5,rfl,ho5,hb5⟩;replace qb:=qb.trans (hb5.mono qb.size);replace hH:=hH.below hb5;replace ho1:=ho1.below hb5;replace ho2:=ho2.below hb5;replace ho4:=ho4.below hb5;refine hK.out _ _ hH (fun h4=>?_);clear hK K h4;try simp only[Act.put,sA,sZ,sS]
 obtain⟨a1,k1,hs1⟩:=ho1.rd.shape;obtain⟨a2,k2,hs2⟩:=ho2.rd.shape;obtain⟨a4,k4,hs4⟩:=ho4.rd.shape;obtain⟨a5,k5,hs5⟩:=ho5.rd.shape;refine rdy 13 (fun K hK=>?_);subst hs1;subst hs2;subst hs4;subst hs5;refine znK rfl 23 rfl #[.slice a1 (num (c:Int)).length k1,.slice a2 (za9 kr).length k2,.slice a4 (num (stp y:Int)).length k4,.slice a5 (za9 y.val).length k5] 105 4 (by go_simp;(try rfl)) ?_;intro bP w6 hb6 hge hcl;replace qb:=qb.trans (hb6.mono qb.size);replace hH:=hH.below hb6;replace ho1:=ho1.below hb6;replace ho2:=ho2.below hb6;replace ho4:=ho4.below hb6;replace ho5:=ho5.below hb6;refine hK.out _ _ hH (fun h4=>?_);clear hK K h4;try simp only[Act.put,sA,sZ,sS]
 refine rdy 14 (fun K hK=>?_);go_simp;have HL:Hid (catL [(Value.slice a1 (num (c:Int)).length k1,num (c:Int)),(.slice a2 (za9 kr).length k2,za9 kr),(.slice a4 (num (stp y:Int)).length k4,num (stp y:Int)),(.slice a5 (za9 y.val).length k5,za9 y.val)]=P):=by unfold Hid;rw[fourCat,HPc.out]
 have hp0:0<P.length:=by
  rw[HPc.out,zg2 (c:Int) (by omega) (by omega),List.length_append];have:=zbL (c:Int).toNat;omega
 refine(znB [(Value.slice a1 (num (c:Int)).length k1,num (c:Int)),(.slice a2 (za9 kr).length k2,za9 kr),(.slice a4 (num (stp y:Int)).length k4,num (stp y:Int)),(.slice a5 (za9 y.val).length k5,za9 y.val)] bP 0 4 w6 (zo6 hcl) (fourOwn ho1 ho2 ho4 ho5) (Nat.le_refl _) (by omega) (by rw[HL.out];exact hp0) (by rw[HL.out];omega)).mono ?_;rw[HL.out];rintro e w7 ⟨u7,rfl,ho7,hb7⟩;have s6:=qb.size;replace qb:=qb.trans (hb7.mono qb.size);replace hH:=hH.below hb7;refine hK.out _ _ hH (fun h4=>?_);clear hK K h4;try simp only[Act.put,sA,sZ,sS]
 refine kA 15 4 hH ?_;refine dne ?_;go_wp2;go_ret;exact⟨_,rfl,ho7.mono s6,qb⟩
theorem zhZ(v:Value)(es:List Ent)(w:World)(hr:RdE w v es)(hf:∀ e∈es,Fits e) :
 Calls Tryz.prog 219 #[v] w fun e w'=>∃ u,e=.returned u∧Own w' w.heap.size u (packL es)∧Below w.heap.size w w':=by
 have HF:Hid (∀ e∈es,Fits e):=hf;clear hf;cases hok:okL es with
 | false =>
  rw[zmV hok];have HOK:Hid (okL es=false):=hok;clear hok;go_enter Tryz.func219,Tryz.ntmps219
  go_wp2_with fail
  refine(zdp v es _ hr HF.out HOK.out).mono ?_;rintro e w1 ⟨rfl,hb1⟩;go_wp2;go_ret;exact⟨_,rfl,(zbv w1).mono hb1.size,hb1.alloc hb1.size _⟩
 | true =>
  rw[ze4 hok];obtain⟨a,cap,hv,hl,hm,_⟩:=id hr;unfold maxLen at hm;subst hv;have hlen:=zZ hok;have HOK:Hid (okL es=true):=hok;clear hok;have N0:Hid (num (es.length:Int)=enc es.length):=zg2 _ (by omega) (by omega);go_enter Tryz.func219,Tryz.ntmps219
  go_wp2_with fail
  refine(zaN _ es _ hr HF.out HOK.out).mono ?_;rintro e w0 ⟨rfl,hb0⟩;have hr0:=hr.below hb0;go_wp2_with fail
  refine(zaT _ _).mono ?_;rw[N0.out];rintro e w1 ⟨u1,rfl,ho1,hb1⟩;have he9:=zT es.length (by omega);have b1:=hb0.trans (hb1.mono hb0.size);replace ho1:=ho1.mono hb0.size;clear hb0 hb1 hr0;go_wp2;go_loopw [3,4,16] (fun v l i wr=>∃ (k:Nat) (last:ByteArray) (ys:List UInt8),k≤es.length∧i=.int .i64 k∧l=.string last∧last.size≤40∧Hid (ys++packF k last (es.drop k)=packA es)∧0<ys.length∧ys.length≤9+300*k∧Own wr w.heap.size v ys∧Below w.heap.size w wr) (fun _ _ i _=>es.length-(intOf i).toNat)
  case atStart=>exact⟨0,⟨#[]⟩,_,Nat.zero_le _,rfl,rfl,Nat.zero_le _,by unfold Hid packA;rfl,zbL _,by omega,ho1,b1⟩
  case round =>
   obtain⟨k,last,ys,hk,rfl,rfl,hls,HP,hy0,hyl,ho,hb⟩:=hrel;clear ho1 b1;by_cases hlt:k<es.length
   ·obtain⟨b,off,rfl,hc⟩:=(hr.below hb).at rfl k hlt;obtain⟨y,hy⟩:∃ y,y=nth es k:=⟨_,rfl⟩;rw[← hy] at hc;have HY:Hid (y=nth es k):=hy;have hoky:okE y=true:=by rw[hy];exact nth_ok HOK.out hlt
    obtain⟨hy1,hy2,hy3,hy4,hy5⟩:=zaE hoky;have HOY:Hid (okE y=true):=hoky;clear hy hoky;obtain⟨c0,c1,c2,c3⟩:=id hc;have hx2:=zad wr y 94;have b2:=hb.alloc hb.size (.cells #[.string y.key,.string y.val,.int .i64 y.seq,.bool y.gone] 94);have ho2:=ho.below (za _ (.cells #[.string y.key,.string y.val,.int .i64 y.seq,.bool y.gone] 94));by_cases h8:k % 8=0
    ·have h8d:((k:Int) % 8==0)=true:=by simp;omega
     have HL:Hid (ahead k last=⟨#[]⟩):=by unfold Hid ahead;rw[if_pos h8]
     go_wp2_with fail
     refine(zc6 _ y _ (Nat.zero_le _) HOY.out).mono ?_;obtain⟨P,hP⟩:∃ P,P=packE ⟨#[]⟩ y:=⟨_,rfl⟩;rw[← hP];have HPE:Hid (P=packE (ahead k last) y):=by rw[HL.out];exact hP
     clear hP;rintro e w3 ⟨u3,rfl,ho3,hb3⟩;have hpl:P.length≤300:=by rw[HPE.out];exact zeQ HOY.out
     have b3:=b2.trans (hb3.mono b2.size);have ho4:=ho2.below hb3;have hx3:=hx2.below hb3;clear ho hb ho2 b2 hx2 hb3 c0 c1 c2 c3 hc;go_wp2_with (at_builtin;(refine zaW rfl _ _ rfl w.heap.size _ _ _ ys P rfl rfl ho4 ho3 (by omega) b3.size ?_))
     intro v5 w5 ho5 hg5;have hx5:=hx3.grew ho4 hy0 hg5;have b5:=zat b3 ho4 hg5 b3.size;obtain⟨xs,hxs⟩:∃ xs,xs=ys++P:=⟨_,rfl⟩;rw[← hxs] at ho5;have hxl:xs.length≤9+300*(k+1):=by rw[hxs];simp only[List.length_append];omega
     have hx0:0<xs.length:=by rw[hxs];simp only[List.length_append];omega
     have HX:Hid (xs++packF (k+1) y.key (es.drop (k+1))=packA es):=by
      unfold Hid;rw[← HP.out,zgi hlt,← HY.out,hxs,HPE.out];simp only[List.append_assoc]
     clear hxs HP HPE ho4 ho3 hg5 hx3 b3;obtain⟨d0,d1,d2,d3⟩:=id hx5;simp only[Nat.zero_add] at d1 d2 d3;go_wp2;go_roundw
     case rel=>exact⟨k+1,y.key,xs,by omega,by go_num,rfl,hy2,HX,hx0,hxl,ho5,b5⟩
     case measure=>simp[intOf];omega
    ·have h8d:((k:Int) % 8==0)=false:=by simp;omega
     have HL:Hid (ahead k last=last):=by unfold Hid ahead;rw[if_neg h8]
     go_wp2_with fail
     refine(zc6 _ y _ hls HOY.out).mono ?_;obtain⟨P,hP⟩:∃ P,P=packE last y:=⟨_,rfl⟩;rw[← hP];have HPE:Hid (P=packE (ahead k last) y):=by rw[HL.out];exact hP
     clear hP;rintro e w3 ⟨u3,rfl,ho3,hb3⟩;have hpl:P.length≤300:=by rw[HPE.out];exact zeQ HOY.out
     have b3:=b2.trans (hb3.mono b2.size);have ho4:=ho2.below hb3;have hx3:=hx2.below hb3;clear ho hb ho2 b2 hx2 hb3 c0 c1 c2 c3 hc;go_wp2_with (at_builtin;(refine zaW rfl _ _ rfl w.heap.size _ _ _ ys P rfl rfl ho4 ho3 (by omega) b3.size ?_))
     intro v5 w5 ho5 hg5;have hx5:=hx3.grew ho4 hy0 hg5;have b5:=zat b3 ho4 hg5 b3.size;obtain⟨xs,hxs⟩:∃ xs,xs=ys++P:=⟨_,rfl⟩;rw[← hxs] at ho5;have hxl:xs.length≤9+300*(k+1):=by rw[hxs];simp only[List.length_append];omega
     have hx0:0<xs.length:=by rw[hxs];simp only[List.length_append];omega
     have HX:Hid (xs++packF (k+1) y.key (es.drop (k+1))=packA es):=by
      unfold Hid;rw[← HP.out,zgi hlt,← HY.out,hxs,HPE.out];simp only[List.append_assoc]
     clear hxs HP HPE ho4 ho3 hg5 hx3 b3;obtain⟨d0,d1,d2,d3⟩:=id hx5;simp only[Nat.zero_add] at d1 d2 d3;go_wp2;go_roundw
     case rel=>exact⟨k+1,y.key,xs,by omega,by go_num,rfl,hy2,HX,hx0,hxl,ho5,b5⟩
     case measure=>simp[intOf];omega
   ·have hke:k=es.length:=by omega
    have HE:Hid (ys=packA es):=by have h:=HP.out;rw[hke,zkN,List.append_nil] at h;exact h
    clear HP;go_wp2;go_ret;exact⟨_,rfl,by rw[← HE.out];exact ho,hb⟩
end Go.Proofs.YtannfbpohhnnkaaGreatDoor
