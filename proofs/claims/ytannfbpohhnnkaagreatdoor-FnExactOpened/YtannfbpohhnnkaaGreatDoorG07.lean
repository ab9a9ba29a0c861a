import Derived.Test.YtannfbpohhnnkaaGreatDoorG06
import Derived.Deep.RegionHeld3
import Derived.Deep.LoopGhost
namespace Go.Proofs.YtannfbpohhnnkaaGreatDoor
set_option maxHeartbeats 16000000
set_option maxRecDepth 100000
open Go.RowKit
theorem Cur.ltE{w0 w:World}{g:Nat}{v:Value}{bs:List UInt8}{p:Nat}(h:Cur w0 w g v bs p):g<w.heap.size:=(Array.getElem?_eq_some_iff.1 h.blk).1
theorem Cur.block{w0 w w':World}{g:Nat}{v:Value}{bs:List UInt8}{p:Nat}(h:Cur w0 w g v bs p)(hb:w'.heap[g]? = w.heap[g]?)(hl:Below w0.heap.size w0 w'):Cur w0 w' g v bs p:=⟨h.rd,h.ge,hb.trans h.blk,hl,h.le⟩
theorem Cur.below{w0 w w':World}{g:Nat}{v:Value}{bs:List UInt8}{p:Nat}(h:Cur w0 w g v bs p)(hb:Below w.heap.size w w'):Cur w0 w' g v bs p :=
 h.block (hb.block g h.ltE) (h.bel.trans (hb.mono h.bel.size))
theorem Cur.set4{w0 w:World}{g c:Nat}{v:Value}{bs:List UInt8}{p:Nat}(h:Cur w0 w g v bs p)(hc:g<c)(u0 u1 u2 u3:Value)(i j k l:Nat):Cur w0 ((((w.setCell ⟨c,i,none⟩ u0).setCell ⟨c,j,none⟩ u1).setCell ⟨c,k,none⟩ u2).setCell ⟨c,l,none⟩ u3) g v bs p :=
 h.block ((heap_setCell_other _ ⟨c,l,none⟩ g u3 (Nat.ne_of_lt hc)).trans ((heap_setCell_other _ ⟨c,k,none⟩ g u2 (Nat.ne_of_lt hc)).trans ((heap_setCell_other _ ⟨c,j,none⟩ g u1 (Nat.ne_of_lt hc)).trans (heap_setCell_other w ⟨c,i,none⟩ g u0 (Nat.ne_of_lt hc)))))
  (zba h.bel (Nat.le_of_lt (Nat.lt_of_le_of_lt h.ge hc)) u0 u1 u2 u3 i j k l)
theorem zjo{a w:World}{row:Option Nat}{b j:Nat}{u:Value}(h:a.grownBy w row)(hb:a.heap.size≤b):a.grownBy (w.setCell ⟨b,j,none⟩ u) row :=
 ⟨h.os,h.tape,h.output,by simpa using h.size,fun k hk hr=>by rw[heap_setCell_other w ⟨b,j,none⟩ k u (by simp;omega)];exact h.block k hk hr⟩
theorem zmQ{a w:World}{row:Option Nat}{b:Nat}(h:a.grownBy w row)(hb:a.heap.size≤b)(u0 u1 u2 u3:Value)(i j k l:Nat):a.grownBy ((((w.setCell ⟨b,i,none⟩ u0).setCell ⟨b,j,none⟩ u1).setCell ⟨b,k,none⟩ u2).setCell ⟨b,l,none⟩ u3) row :=
 zjo (zjo (zjo (zjo h hb) hb) hb) hb
theorem zqY(w:World)(o:Obj)(row:Option Nat):w.grownBy (w.alloc o) row :=
 ⟨rfl,rfl,rfl,by simp,fun k hk _=>(za w o).block k hk⟩
theorem zeR{a b c:World}{row:Option Nat}(h:a.grownBy b row)(k:b.grownBy c row):a.grownBy c row :=
 ⟨k.os.trans h.os,k.tape.trans h.tape,k.output.trans h.output,Nat.le_trans h.size k.size,fun i hi hr=>(k.block i (Nat.lt_of_lt_of_le hi h.size) hr).trans (h.block i hi hr)⟩
theorem BoxAt.kept{w w':World}{b g:Nat}{x:Ent}(h:BoxAt w b x)(hg:w.grownBy w' (some g))(hn:g<b):BoxAt w' b x:=by
 have hb:=hg.block b h.1.lt (by simp;omega);refine⟨h.1.of_block hb,fun o=>?_⟩;have:=h.2 o;unfold World.frozen? at this ⊢;rw[hb];exact this
def zi0(w0 w:World)(g:Nat)(v:Value)(bs:List UInt8)(p:Nat)(r:Option (Ent×Nat))(e:Ending)(w':World):Prop :=
 ∃ (p':Nat) (x:Ent),e=.returned (.tuple #[.agg #[.string x.key,.string x.val,.int .i64 x.seq,.bool x.gone],.bool r.isSome])∧Cur w0 w' g v bs p'∧w.grownBy w' (some g)∧∀ y k,r=some (y,k)→x=y∧p'=p+k
theorem zbz{w0 w W:World}{g p p':Nat}{v:Value}{bs:List UInt8}{r:Option (Ent×Nat)}(hr:r=none)(hc:Cur w0 W g v bs p')(hg:w.grownBy W (some g))(hl:g<w.heap.size)(u0 u1 u2 u3:Value)(i j k l:Nat) :
 zi0 w0 w g v bs p r (.returned (.tuple #[.agg #[.string ⟨#[]⟩,.string ⟨#[]⟩,.int .i64 0,.bool false],.bool false])) ((((W.setCell ⟨w.heap.size,i,none⟩ u0).setCell ⟨w.heap.size,j,none⟩ u1).setCell ⟨w.heap.size,k,none⟩ u2).setCell ⟨w.heap.size,l,none⟩ u3) :=
 ⟨p',zeroE,by rw[hr];rfl,hc.set4 hl _ _ _ _ _ _ _ _,zmQ hg (Nat.le_refl _) _ _ _ _ _ _ _ _,fun y k h=>by rw[hr] at h;cases h⟩
theorem zl8{w0 w W:World}{g p p' n:Nat}{v:Value}{bs:List UInt8}{r:Option (Ent×Nat)}{x:Ent}(hr:r=some (x,n))(hp:p'=p+n)(hc:Cur w0 W g v bs p')(hg:w.grownBy W (some g))(hl:g<w.heap.size)(u0 u1 u2 u3:Value)(i j k l:Nat) :
 zi0 w0 w g v bs p r (.returned (.tuple #[.agg #[.string x.key,.string x.val,.int .i64 x.seq,.bool x.gone],.bool true])) ((((W.setCell ⟨w.heap.size,i,none⟩ u0).setCell ⟨w.heap.size,j,none⟩ u1).setCell ⟨w.heap.size,k,none⟩ u2).setCell ⟨w.heap.size,l,none⟩ u3) :=
 ⟨p',x,by rw[hr];rfl,hc.set4 hl _ _ _ _ _ _ _ _,zmQ hg (Nat.le_refl _) _ _ _ _ _ _ _ _,fun y m h=>by rw[hr] at h;obtain⟨rfl,rfl⟩:=Prod.mk.inj (Option.some.inj h);exact⟨rfl,hp⟩⟩
theorem zb8(bs:List UInt8):(zr bs).1.length≤3000:=by
 unfold zr;split
 ·simp
 ·simp only[List.length_take];omega
theorem zlT(last:ByteArray)(n:Nat)(l:List UInt8):last.extract 0 n++⟨l.toArray⟩=⟨(last.data.toList.take n++l).toArray⟩:=by
 apply ByteArray.ext;rw[ByteArray.data_append,ByteArray.data_extract];apply Array.toList_inj.1;simp[Array.toList_extract,List.extract_eq_take_drop]
theorem znx{last key:ByteArray}{a1 a2 t2 s1 s2 v2:Nat}{t1 v1:List UInt8}(h1:¬ (a2=0∨last.size<a1∨t2=0))(hk:key=⟨(last.data.toList.take a1++t1).toArray⟩)(h2:com last key=a1) :
 zY true last (a1,a2) (t1,t2) (s1,s2) (v1,v2)=if s2=0∨v2=0 then none else some (⟨key,⟨v1.toArray⟩,((s1 / 2:Nat):Int),decide (s1 % 2=1)⟩,a2+t2+s2+v2):=by
 subst hk;unfold zY;rw[if_neg h1,if_neg (by rintro ⟨_,hx⟩;exact hx h2)]
theorem zoB(s:Nat):((s:Int) % 2==1)=decide (s % 2=1):=by
 by_cases h:s % 2=1
 ·rw[decide_eq_true h];simp;omega
 ·rw[decide_eq_false h];simp;omega
theorem zhN(w0 w:World)(g:Nat)(v:Value)(bs:List UInt8)(p:Nat)(last:ByteArray)(h:Cur w0 w g v bs p)(hls:last.size≤1000000) :
 Calls Tryz.prog 256 #[.pointer (some ⟨g,0,none⟩),.string last] w fun e w'=>zi0 w0 w g v bs p (rdEnt true last (bs.drop p)) e w':=by
 obtain⟨A,hA⟩:∃ A,rdNum (bs.drop p)=A:=⟨_,rfl⟩;obtain⟨T,hT⟩:∃ T,zr (bs.drop (p+A.2))=T:=⟨_,rfl⟩;obtain⟨S,hS⟩:∃ S,rdNum (bs.drop (p+A.2+T.2))=S:=⟨_,rfl⟩;obtain⟨V,hV⟩:∃ V,zr (bs.drop (p+A.2+T.2+S.2))=V:=⟨_,rfl⟩;have RES:rdEnt true last (bs.drop p)=zY true last A T S V:=zbJ true last _ A T S V hA (by rw[List.drop_drop];exact hT) (by rw[List.drop_drop,← Nat.add_assoc];exact hS) (by rw[List.drop_drop,← Nat.add_assoc,← Nat.add_assoc];exact hV);rw[RES];clear RES;obtain⟨r,hr⟩:∃ r,r=zY true last A T S V:=⟨_,rfl⟩;rw[← hr];have HR:Hid (r=zY true last A T S V):=hr;clear hr;have HNA:Hid (∀ W,Cur w0 W g v bs p→Calls Tryz.prog 161 #[.pointer (some ⟨g,0,none⟩)] W fun e w'=>zgN w0 W g v bs p A e w'):=fun W hW=>by rw[← hA];exact zcz w0 W g v bs p hW
 have HTT:Hid (∀ W,Cur w0 W g v bs (p+A.2)→Calls Tryz.prog 162 #[.pointer (some ⟨g,0,none⟩)] W fun e w'=>zeT w0 W g v bs (p+A.2) T e w'):=fun W hW=>by rw[← hT];exact ziH w0 W g v bs _ hW
 have HNS:Hid (∀ W,Cur w0 W g v bs (p+A.2+T.2)→Calls Tryz.prog 161 #[.pointer (some ⟨g,0,none⟩)] W fun e w'=>zgN w0 W g v bs (p+A.2+T.2) S e w'):=fun W hW=>by rw[← hS];exact zcz w0 W g v bs _ hW
 have HTV:Hid (∀ W,Cur w0 W g v bs (p+A.2+T.2+S.2)→Calls Tryz.prog 162 #[.pointer (some ⟨g,0,none⟩)] W fun e w'=>zeT w0 W g v bs (p+A.2+T.2+S.2) V e w'):=fun W hW=>by rw[← hV];exact ziH w0 W g v bs _ hW
 have hA1:=(zag (bs.drop p)).2.1;rw[hA] at hA1;have hT1:=zb8 (bs.drop (p+A.2));rw[hT] at hT1;have hS1:=(zag (bs.drop (p+A.2+T.2))).2.1;rw[hS] at hS1;clear hA hT hS hV;obtain⟨a1,a2⟩:=A;obtain⟨t1,t2⟩:=T;obtain⟨s1,s2⟩:=S;obtain⟨v1,v2⟩:=V;simp only at hA1 hT1 hS1 HNA HTT HNS HTV;have hgl:=h.ltE;have hz:=zew w 94;have hc0:=h.below (za w (.cells #[.string ⟨#[]⟩,.string ⟨#[]⟩,.int .i64 0,.bool false] 94));have hg0:=zqY w (.cells #[.string ⟨#[]⟩,.string ⟨#[]⟩,.int .i64 0,.bool false] 94) (some g);clear h;go_enter Tryz.func256,Tryz.ntmps256
 go_wp2_with fail
 refine(HNA.out _ hc0).mono ?_;rintro e w1 ⟨p1,rfl,hc1,hp1,hg1⟩;have hz1:=hz.kept hg1 hgl;have hgg1:=zeR hg0 hg1;clear hz hc0 hg0 hg1;by_cases q0:a2=0
 ·skip
  have RES:Hid (r=none):=by unfold Hid;rw[HR.out];unfold zY;rw[if_pos (.inl q0)]
  have hd:decide ((a1,a2).2≠0)=false:=by simp[q0]
  rw[hd];obtain⟨z0,z1,z2,z3,f0,f1,f2,f3⟩:=hz1.facts;clear hp1 q0 hd;go_wp2;exact bodyPost_ret (v:=.tuple #[.agg #[.string ⟨#[]⟩,.string ⟨#[]⟩,.int .i64 0,.bool false],.bool false]) (by simp[results,Tryz.results256,go_sem,z0,z1,z2,z3]) rfl (zbz RES.out hc1 hgg1 hgl _ _ _ _ _ _ _ _)
 have hd:decide ((a1,a2).2≠0)=true:=by simp[q0]
 rw[hd];obtain rfl:p1=p+a2:=hp1 q0;clear hp1 hd;by_cases q1:last.size<a1
 ·skip
  have RES:Hid (r=none):=by unfold Hid;rw[HR.out];unfold zY;rw[if_pos (.inr (.inl q1))]
  obtain⟨z0,z1,z2,z3,f0,f1,f2,f3⟩:=hz1.facts;have q1i:(last.size:Int)<(a1:Int):=by omega
  clear q0;go_wp2;exact bodyPost_ret (v:=.tuple #[.agg #[.string ⟨#[]⟩,.string ⟨#[]⟩,.int .i64 0,.bool false],.bool false]) (by simp[results,Tryz.results256,go_sem,z0,z1,z2,z3]) rfl (zbz RES.out hc1 hgg1 hgl _ _ _ _ _ _ _ _)
 go_wp2_with fail
 refine(HTT.out _ hc1).mono ?_;rintro e w2 ⟨p2,rfl,hc2,hp2,hg2⟩;have hz2:=hz1.kept hg2 hgl;have hgg2:=zeR hgg1 hg2;clear hz1 hc1 hgg1 hg2;by_cases q2:t2=0
 ·skip
  have RES:Hid (r=none):=by unfold Hid;rw[HR.out];unfold zY;rw[if_pos (.inr (.inr q2))]
  have hd:decide ((t1,t2).2≠0)=false:=by simp[q2]
  rw[hd];obtain⟨z0,z1,z2,z3,f0,f1,f2,f3⟩:=hz2.facts;clear hp2 q2 hd q0;go_wp2;exact bodyPost_ret (v:=.tuple #[.agg #[.string ⟨#[]⟩,.string ⟨#[]⟩,.int .i64 0,.bool false],.bool false]) (by simp[results,Tryz.results256,go_sem,z0,z1,z2,z3]) rfl (zbz RES.out hc2 hgg2 hgl _ _ _ _ _ _ _ _)
 have hd:decide ((t1,t2).2≠0)=true:=by simp[q2]
 rw[hd];obtain rfl:p2=p+a2+t2:=hp2 q2;clear hp2 hd;have hkc:=zlT last a1 t1;obtain⟨key,hk⟩:∃ key:ByteArray,key=⟨(last.data.toList.take a1++t1).toArray⟩:=⟨_,rfl⟩;have hks:key.size≤1003000:=by
  rw[hk];show (last.data.toList.take a1++t1).toArray.size≤1003000;have:=ze last;simp only[List.size_toArray,List.length_append,List.length_take];omega
 rw[← hk] at hkc;have HK:Hid (key=⟨(last.data.toList.take a1++t1).toArray⟩):=hk;have HKC:Hid (last.extract 0 a1++⟨t1.toArray⟩=key):=hkc;clear hk hkc;go_wp2_with fail
 rw[HKC.out];refine(zee last key _ (by omega) (by omega)).mono ?_;rintro e w3 ⟨rfl,n3,rfl⟩;have hz3:BoxAt (w2.drewN n3) w.heap.size zeroE:=hz2;have hc3:=hc2.drewN n3;have hgg3:=za6 hgg2 n3;clear hz2 hc2 hgg2;generalize w2.drewN n3=W3 at hz3 hc3 hgg3 ⊢;have HQ:Hid (¬ (a2=0∨last.size<a1∨t2=0)):=by unfold Hid;omega
 clear q0 q2;by_cases q3:com last key=a1
 ·have hne:((com last key:Int) != (a1:Int))=false:=by rw[q3];simp
  have HQ2:Hid (r=if s2=0∨v2=0 then none else some (⟨key,⟨v1.toArray⟩,((s1 / 2:Nat):Int),decide (s1 % 2=1)⟩,a2+t2+s2+v2)):=by unfold Hid;rw[HR.out];exact znx HQ.out HK.out q3
  clear q3;generalize com last key=cc at hne ⊢;go_wp2_with fail
  refine(HNS.out _ hc3).mono ?_;rintro e w4 ⟨p4,rfl,hc4,hp4,hg4⟩;have hz4:=hz3.kept hg4 hgl;have hgg4:=zeR hgg3 hg4;clear hz3 hc3 hgg3 hg4;by_cases q4:s2=0
  ·skip
   have RES:Hid (r=none):=by unfold Hid;rw[HQ2.out,if_pos (.inl q4)]
   have hd:decide ((s1,s2).2≠0)=false:=by simp[q4]
   rw[hd];obtain⟨z0,z1,z2,z3,f0,f1,f2,f3⟩:=hz4.facts;clear hp4 q4 hd;go_wp2;exact bodyPost_ret (v:=.tuple #[.agg #[.string ⟨#[]⟩,.string ⟨#[]⟩,.int .i64 0,.bool false],.bool false]) (by simp[results,Tryz.results256,go_sem,z0,z1,z2,z3]) rfl (zbz RES.out hc4 hgg4 hgl _ _ _ _ _ _ _ _)
  have hd:decide ((s1,s2).2≠0)=true:=by simp[q4]
  rw[hd];obtain rfl:p4=p+a2+t2+s2:=hp4 q4;clear hp4 hd;go_wp2_with fail
  refine(HTV.out _ hc4).mono ?_;rintro e w5 ⟨p5,rfl,hc5,hp5,hg5⟩;have hz5:=hz4.kept hg5 hgl;have hgg5:=zeR hgg4 hg5;clear hz4 hc4 hgg4 hg5;obtain⟨z0,z1,z2,z3,f0,f1,f2,f3⟩:=hz5.facts;by_cases q5:v2=0
  ·skip
   have RES:Hid (r=none):=by unfold Hid;rw[HQ2.out,if_pos (.inr q5)]
   have hd:decide ((v1,v2).2≠0)=false:=by simp[q5]
   rw[hd];clear hp5 q5 hd q4;go_wp2;exact bodyPost_ret (v:=.tuple #[.agg #[.string ⟨#[]⟩,.string ⟨#[]⟩,.int .i64 0,.bool false],.bool false]) (by simp[results,Tryz.results256,go_sem,z0,z1,z2,z3]) rfl (zbz RES.out hc5 hgg5 hgl _ _ _ _ _ _ _ _)
  have hd:decide ((v1,v2).2≠0)=true:=by simp[q5]
  rw[hd];obtain rfl:p5=p+a2+t2+s2+v2:=hp5 q5;have RES:Hid (r=some (⟨key,⟨v1.toArray⟩,((s1 / 2:Nat):Int),decide (s1 % 2=1)⟩,a2+t2+s2+v2)):=by unfold Hid;rw[HQ2.out,if_neg (by omega)]
  clear hp5 q5 hd q4;have e1:(s1:Int) / 2=((s1 / 2:Nat):Int):=by omega
  have e2:=zoB s1;have HE1:Hid ((s1:Int) / 2=((s1 / 2:Nat):Int)):=e1;have HE2:Hid (((s1:Int) % 2==1)=decide (s1 % 2=1)):=e2;clear e1 e2;go_wp2;rw[HE1.out,HE2.out];refine bodyPost_ret (v:=.tuple #[.agg #[.string key,.string ⟨v1.toArray⟩,.int .i64 ((s1 / 2:Nat):Int),.bool (decide (s1 % 2=1))],.bool true]) (by simp[results,Tryz.results256,go_sem,z0,z1,z2,z3]) rfl ?_;exact zl8 (x:=⟨key,⟨v1.toArray⟩,((s1 / 2:Nat):Int),decide (s1 % 2=1)⟩) RES.out (by omega) hc5 hgg5 hgl _ _ _ _ _ _ _ _
 ·skip
  have hne:((com last key:Int) != (a1:Int))=true:=by simp;omega
  have RES:Hid (r=none):=by unfold Hid;rw[HR.out];unfold zY;rw[if_neg HQ.out,if_pos ⟨rfl,by rw[← HK.out];exact q3⟩]
  clear q3;generalize com last key=cc at hne ⊢;obtain⟨z0,z1,z2,z3,f0,f1,f2,f3⟩:=hz3.facts;go_wp2;exact bodyPost_ret (v:=.tuple #[.agg #[.string ⟨#[]⟩,.string ⟨#[]⟩,.int .i64 0,.bool false],.bool false]) (by simp[results,Tryz.results256,go_sem,z0,z1,z2,z3]) rfl (zbz RES.out hc3 hgg3 hgl _ _ _ _ _ _ _ _)
open Go.RowKit
theorem or_at(x y z:Int)(b:Nat)(w:World)(hz:z=if x≠0 then x else y)(h0:w.cell? ⟨b,0,none⟩=some (.int .i64 x))(h1:w.cell? ⟨b,1,none⟩=some (.int .i64 y))(bx : -1≤x∧x≤1)(hy1 : -1≤y∧y≤1) :
 Calls Tryz.prog 224 #[.slice (some ⟨b,0,none⟩) 2 2] w fun e w'=>e=.returned (.int .i64 z)∧w'=w:=by
 subst hz;exact or_any x y b w h0 h1 bx hy1
theorem zaq(a b:Ent)(w:World) :
 Calls Tryz.prog 200 #[.agg #[.string a.key,.string a.val,.int .i64 a.seq,.bool a.gone],.agg #[.string b.key,.string b.val,.int .i64 b.seq,.bool b.gone]] w fun e w'=>e=.returned (.int .i64 (ordE a b))∧Below w.heap.size w w':=by
 have bx:=zpt a.key b.key;have hy1:=zlH b.seq a.seq;have hz:Hid (ordE a b=if cmpK a.key b.key≠0 then cmpK a.key b.key else cmpI b.seq a.seq):=rfl;go_enter Tryz.func200,Tryz.ntmps200
 go_wp2;go_region_held3 (fun w'=>w'.cell? ⟨w.heap.size,0,none⟩=some (.string a.key)∧w'.cell? ⟨w.heap.size+1,0,none⟩=some (.string b.key)∧w'.cell? ⟨w.heap.size,2,none⟩=some (.int .i64 a.seq)∧w'.cell? ⟨w.heap.size+1,2,none⟩=some (.int .i64 b.seq)) (go_keep)
  (first
   | (go_at_call 225;refine(zn1 _ _ _).mono ?_;rintro e w' ⟨rfl,rfl⟩)
   | (go_at_call 226;refine(zon _ _ _).mono ?_;rintro e w' ⟨rfl,rfl⟩)
   | (go_at_call 224;refine(or_at (cmpK a.key b.key) (cmpI b.seq a.seq) (ordE a b) _ _ hz.out (by simp[World.cell?_alloc_at]) (by simp[World.cell?_alloc_at]) bx hy1).mono ?_;rintro e w' ⟨rfl,rfl⟩))
 all_goals go_wp2
 all_goals go_ret
 all_goals exact⟨rfl,((zbp _ _ _).alloc (by simp;omega) _).drew⟩
open Go.RowKit
theorem zbb(a:Ent)(w:World)(hf:Fits a)(h:okE a=true) :
 Calls Tryz.prog 125 #[.agg #[.string a.key,.string a.val,.int .i64 a.seq,.bool a.gone]] w fun e w'=>e=.returned (.bool true)∧Below w.heap.size w w':=by
 have:=zei a w hf;rwa [h] at this
theorem zh3(a:Ent)(w:World)(hf:Fits a)(h:okE a=false) :
 Calls Tryz.prog 125 #[.agg #[.string a.key,.string a.val,.int .i64 a.seq,.bool a.gone]] w fun e w'=>e=.returned (.bool false)∧Below w.heap.size w w':=by
 have:=zei a w hf;rwa [h] at this
theorem zad(W:World)(x:Ent)(t:TypeId):EntAt (W.alloc (.cells #[.string x.key,.string x.val,.int .i64 x.seq,.bool x.gone] t)) W.heap.size 0 x :=
 ⟨by simp[World.cell?_alloc_at],by simp[World.cell?_alloc_at],by simp[World.cell?_alloc_at],by simp[World.cell?_alloc_at]⟩
theorem EntAt.alloc{w:World}{b o:Nat}{e:Ent}(h:EntAt w b o e)(x:Obj):EntAt (w.alloc x) b o e:=h.below (za _ _)
theorem zpS{a b:Ent}(h:ahd a b=true):ordE a b<0:=(zgu a b).2 h
theorem zoT{a b:Ent}(h:ahd a b=false):0≤ordE a b:=by
 rcases Int.lt_or_le (ordE a b) 0 with h1 | h1
 ·rw[(zgu a b).1 h1] at h;cases h
 ·exact h1
theorem zaj(v:Value)(es:List Ent)(w:World)(hr:RdE w v es)(hf:∀ e∈es,Fits e) :
 Calls Tryz.prog 151 #[v] w fun e w'=>e=.returned (.bool (okL es))∧Below w.heap.size w w':=by
 obtain⟨a,cap,hv,hl,hm,_⟩:=id hr;unfold maxLen at hm;subst hv;have HF:Hid (∀ e∈es,Fits e):=hf;clear hf;by_cases hbig:300<es.length
 ·go_enter Tryz.func151,Tryz.ntmps151
  go_wp2;go_ret;exact⟨zF (by simp[okL];omega),Below.refl _ _⟩
 ·go_enter Tryz.func151,Tryz.ntmps151
  go_wp2;go_loopw [10] (fun i wr=>∃ k:Nat,k≤es.length∧i=.int .i64 k∧Hid (okTo es k=true)∧Below w.heap.size w wr) (fun i _=>es.length-(intOf i).toNat)
  case atStart=>exact⟨0,Nat.zero_le _,rfl,rfl,Below.refl _ _⟩
  case round =>
   obtain⟨k,hk,rfl,HO,hb⟩:=hrel;by_cases hlt:k<es.length
   ·obtain⟨b,off,rfl,hc⟩:=hr.at rfl k hlt;have hc2:=hc.below hb;have hlt2:=hc2.lt;obtain⟨c0,c1,c2,c3⟩:=hc2;have hfk:=HF.out _ (List.getElem_mem hlt);rw[← zE hlt] at hfk;obtain⟨x,hx⟩:∃ x,x=nth es k:=⟨_,rfl⟩;rw[← hx] at c0 c1 c2 c3 hfk;have HX:Hid (x=nth es k):=hx;clear hx hc;cases hok:okE x with
    | false =>
     have RES:Hid (okL es=false):=zeB hlt (by unfold okAt;rw[← HX.out,hok];rfl);go_wp2_with fail
     refine wp_region_noPanic ?_;refine wp_region_held_drew (S:=fun w'=>EntAt w' wr.heap.size 0 x) (by kernel_rfl) (zad _ _ _) (fun hH=>?_);refine kA 0 15 hH ?_;refine rdy 1 (fun K hK=>?_);go_simp;refine(zh3 x _ hfk hok).mono ?_;rintro e w' ⟨rfl,hb'⟩;refine hK.out _ _ (hH.below hb') (fun hA=>?_);clear hK K;try simp only[Act.put,sA,sZ,sS]
     refine kA 2 17 hA ?_;refine kA 3 18 hA ?_;refine kS 4 19 hA ?_;refine kS 5 20 hA ?_;refine kS 6 21 hA ?_;refine kS 7 22 hA ?_;refine kS 8 23 hA ?_;refine kS 9 24 hA ?_;refine kS 10 25 hA ?_;refine kS 11 26 hA ?_;refine kS 12 27 hA ?_;refine kS 13 28 hA ?_;refine kS 14 29 hA ?_;refine kS 15 30 hA ?_;refine kA 16 31 hA ?_;refine dne ?_;go_wp2;go_ret;exact⟨zF RES.out.symm,(hb.alloc hb.size _).drew.trans (hb'.mono (by have:=hb.size;simp;omega))⟩
    | true =>
     by_cases hk0:k=0
     ·skip
      have HO2:Hid (okTo es (k+1)=true):=by
       show _=_;rw[zeX,HO.out];unfold okAt;rw[← HX.out,hok];simp[hk0]
      have hkn:decide (0<k)=false:=by simpa using hk0
      clear hk0;go_wp2_with fail
      refine wp_region_noPanic ?_;refine wp_region_held_drew (S:=fun w'=>EntAt w' wr.heap.size 0 x) (by kernel_rfl) (zad _ _ _) (fun hH=>?_);refine kA 0 15 hH ?_;refine rdy 1 (fun K hK=>?_);go_simp;refine(zbb x _ hfk hok).mono ?_;rintro e w' ⟨rfl,hb'⟩;refine hK.out _ _ (hH.below hb') (fun hA=>?_);clear hK K;try simp only[Act.put,sA,sZ,sS]
      refine kA 2 17 hA ?_;refine kA 3 18 hA ?_;refine kA 4 19 hA ?_;refine kA 5 20 hA ?_;refine kA 6 21 hA ?_;refine kS 7 22 hA ?_;refine kS 8 23 hA ?_;refine kS 9 24 hA ?_;refine kS 10 25 hA ?_;refine kS 11 26 hA ?_;refine kS 12 27 hA ?_;refine kS 13 28 hA ?_;refine kS 14 29 hA ?_;refine kA 15 30 hA ?_;refine kA 16 31 hA ?_;refine dne ?_;go_wp2;go_roundw
      case rel=>exact⟨k+1,by omega,by go_num,HO2,(hb.alloc hb.size _).drew.trans (hb'.mono (by have:=hb.size;simp;omega))⟩
      case measure=>simp[intOf];omega
     ·skip
      obtain⟨b2,off2,ha2,hd⟩:=hr.at rfl (k-1) (by omega);simp only[Option.some.injEq,Addr.mk.injEq] at ha2;obtain⟨rfl,rfl,_⟩:=ha2;have hd2:=hd.below hb;obtain⟨y,hy⟩:∃ y,y=nth es (k-1):=⟨_,rfl⟩;rw[← hy] at hd2;have HY:Hid (y=nth es (k-1)):=hy;clear hy hd;obtain⟨j,hj⟩:∃ j,j=k-1:=⟨k-1,rfl⟩;rw[← hj] at hd2;have hkj:(k:Int)-1=(j:Int):=by omega
      have hkp:decide (0<k)=true:=by simp;omega
      have hj0:(0:Int)≤(j:Int):=by omega
      have hjn:j<es.length:=by omega
      have hwr:IntKind.i64.wrap (j:Int)=(j:Int):=by rw[IntKind.wrap_i64];omega
      have HK0:Hid (k≠0):=hk0;clear hj hk0;cases hah:ahd y x with
      | false =>
       have hor:=zoT hah;have RES:Hid (okL es=false):=zeB hlt (by unfold okAt;rw[← HX.out,← HY.out,hok,hah];simpa using HK0.out);go_wp2_with fail
       refine wp_region_noPanic ?_;refine wp_region_held_drew (S:=fun w'=>EntAt w' wr.heap.size 0 x∧EntAt w' b (off+j*4) y) (by kernel_rfl) ⟨zad _ _ _,hd2.alloc _⟩ (fun hH=>?_);refine kA 0 15 hH ?_;refine rdy 1 (fun K hK=>?_);go_simp;refine(zbb x _ hfk hok).mono ?_;rintro e w' ⟨rfl,hb'⟩;refine hK.out _ _ ⟨hH.1.below hb',hH.2.below hb'⟩ (fun hA=>?_);clear hK K;try simp only[Act.put,sA,sZ,sS]
       refine kA 2 17 hA ?_;refine kA 3 18 hA ?_;refine kA 4 19 hA ?_;refine kA 5 20 hA ?_;refine kA 6 21 hA ?_;refine kA 7 22 hA ?_;refine kA 8 23 hA ?_;refine kA 9 24 hA ?_;refine kA 10 25 hA ?_;refine kA 11 26 hA ?_;refine kA 12 27 hA ?_;refine rdy 13 (fun K hK=>?_);go_simp;refine(zaq y x _).mono ?_;rintro e w2 ⟨rfl,hb2⟩;refine hK.out _ _ ⟨hA.1.below hb2,hA.2.below hb2⟩ (fun hB=>?_);clear hK K;try simp only[Act.put,sA,sZ,sS]
       refine kA 14 29 hB ?_;refine kA 15 30 hB ?_;refine kA 16 31 hB ?_;refine dne ?_;have bz:=((hb.alloc hb.size _).drew.trans (hb'.mono (by have:=hb.size;simp;omega))).trans (hb2.mono (by have:=hb.size;have:=hb'.size;simp at this;omega));go_wp2;go_ret;exact⟨zF RES.out.symm,bz⟩
      | true =>
       have hor:=zpS hah;have HO2:Hid (okTo es (k+1)=true):=by
        show _=_;rw[zeX,HO.out];unfold okAt;rw[← HX.out,← HY.out,hok,hah];simp
       go_wp2_with fail
       refine wp_region_noPanic ?_;refine wp_region_held_drew (S:=fun w'=>EntAt w' wr.heap.size 0 x∧EntAt w' b (off+j*4) y) (by kernel_rfl) ⟨zad _ _ _,hd2.alloc _⟩ (fun hH=>?_);refine kA 0 15 hH ?_;refine rdy 1 (fun K hK=>?_);go_simp;refine(zbb x _ hfk hok).mono ?_;rintro e w' ⟨rfl,hb'⟩;refine hK.out _ _ ⟨hH.1.below hb',hH.2.below hb'⟩ (fun hA=>?_);clear hK K;try simp only[Act.put,sA,sZ,sS]
       refine kA 2 17 hA ?_;refine kA 3 18 hA ?_;refine kA 4 19 hA ?_;refine kA 5 20 hA ?_;refine kA 6 21 hA ?_;refine kA 7 22 hA ?_;refine kA 8 23 hA ?_;refine kA 9 24 hA ?_;refine kA 10 25 hA ?_;refine kA 11 26 hA ?_;refine kA 12 27 hA ?_;refine rdy 13 (fun K hK=>?_);go_simp;refine(zaq y x _).mono ?_;rintro e w2 ⟨rfl,hb2⟩;refine hK.out _ _ ⟨hA.1.below hb2,hA.2.below hb2⟩ (fun hB=>?_);clear hK K;try simp only[Act.put,sA,sZ,sS]
       refine kA 14 29 hB ?_;refine kA 15 30 hB ?_;refine kA 16 31 hB ?_;refine dne ?_;have bz:=((hb.alloc hb.size _).drew.trans (hb'.mono (by have:=hb.size;simp;omega))).trans (hb2.mono (by have:=hb.size;have:=hb'.size;simp at this;omega));go_wp2;go_roundw
       case rel=>exact⟨k+1,by omega,by go_num,HO2,bz⟩
       case measure=>simp[intOf];omega
   ·have hke:k=es.length:=by omega
    subst hke;go_wp2;go_ret;exact⟨zF (by simp[okL,HO.out];omega),hb⟩
open Go.RowKit
theorem zn3(W:World)(x:Ent)(t:TypeId):EntAt (W.alloc (.cells #[.string x.key,.string x.val,.int .i64 x.seq,.bool x.gone] t)) W.heap.size 0 x:=zad W x t
theorem znO(v:Value)(es:List Ent)(t:Ent)(w:World)(hr:RdE w v es)(hok:okL es=true) :
 Calls Tryz.prog 245 #[v,.agg #[.string t.key,.string t.val,.int .i64 t.seq,.bool t.gone],.func (.func 200) #[] #[]] w fun e w' =>
  e=.returned (.tuple #[.int .i64 (atE es t:Nat),.bool (hasKS es t)])∧Below w.heap.size w w':=by
 obtain⟨a,cap,hv,hl,hm,_⟩:=id hr;unfold maxLen at hm;subst hv;have hlen:=zZ hok;have hbx:=zn3 w t 94;have hb0:=za w (.cells #[.string t.key,.string t.val,.int .i64 t.seq,.bool t.gone] 94);go_enter Tryz.func245,Tryz.ntmps245
 go_wp2;go_loopw [9,10] (fun s9 s10 wr=>∃ lo hi:Nat,s9=.int .i64 lo∧s10=.int .i64 hi∧lo≤hi∧hi≤es.length∧Hid (lo≤atE es t∧atE es t≤hi)∧EntAt wr w.heap.size 0 t∧Below w.heap.size w wr) (fun s9 s10 _=>(intOf s10).toNat-(intOf s9).toNat)
 case atStart=>exact⟨0,es.length,rfl,rfl,Nat.zero_le _,Nat.le_refl _,⟨Nat.zero_le _,zjG es t⟩,hbx,hb0⟩
 case round =>
  obtain⟨lo,hi,rfl,rfl,hlh,hin,HA,hx0,hb⟩:=hrel;clear hbx hb0;by_cases hlt:lo<hi
  ·obtain⟨m,hm2⟩:∃ m,m=(lo+hi) / 2:=⟨_,rfl⟩;have hml:m<es.length:=by omega
   have HM:Hid (m=(lo+hi) / 2):=hm2;obtain⟨b,off,rfl,hc⟩:=(hr.below hb).at rfl m hml;obtain⟨y,hy⟩:∃ y,y=nth es m:=⟨_,rfl⟩;rw[← hy] at hc;have HY:Hid (y=nth es m):=hy;clear hy;have hmid:((lo:Int)+(hi:Int)) / 2=(m:Int):=by omega
   cases hah:ahd y t with
   | true =>
    have hor:=zpS hah;have HA2:Hid (m+1≤atE es t∧atE es t≤hi):=by
     refine⟨?_,HA.out.2⟩;rcases Nat.lt_or_ge m (atE es t) with h | h
     ·exact h
     ·have:=ziq hok t h hml;rw[← HY.out,hah] at this;cases this
    clear hm2;go_wp2_with fail
    refine wp_region_noPanic ?_;refine wp_region_held_drew (S:=fun w'=>EntAt w' w.heap.size 0 t∧EntAt w' b (off+m*4) y) (by kernel_rfl) ⟨hx0,hc⟩ (fun hH=>?_);refine kA 0 24 hH ?_;refine kA 1 25 hH ?_;refine kA 2 26 hH ?_;refine kA 3 27 hH ?_;refine kA 4 28 hH ?_;refine kA 5 29 hH ?_;refine rdy 6 (fun K hK=>?_);go_simp;refine(zaq y t _).mono ?_;rintro e w' ⟨rfl,hb'⟩;refine hK.out _ _ ⟨hH.1.below hb',hH.2.below hb'⟩ (fun hB=>?_);clear hK K;try simp only[Act.put,sA,sZ,sS]
    refine kA 7 31 hB ?_;refine dne ?_;have bz:=hb.drew.trans (hb'.mono hb.size);go_wp2;go_roundw
    case rel=>exact⟨m+1,hi,by go_num,rfl,by have:=HM.out;omega,hin,HA2,hB.1,bz⟩
    case measure=>have:=HM.out;simp[intOf];omega
   | false =>
    have hor:=zoT hah;have HA2:Hid (lo≤atE es t∧atE es t≤m):=by
     refine⟨HA.out.1,?_⟩;rcases Nat.lt_or_ge m (atE es t) with h | h
     ·have:=zj0 es t h;rw[← HY.out,hah] at this;cases this
     ·exact h
    clear hm2;go_wp2_with fail
    refine wp_region_noPanic ?_;refine wp_region_held_drew (S:=fun w'=>EntAt w' w.heap.size 0 t∧EntAt w' b (off+m*4) y) (by kernel_rfl) ⟨hx0,hc⟩ (fun hH=>?_);refine kA 0 24 hH ?_;refine kA 1 25 hH ?_;refine kA 2 26 hH ?_;refine kA 3 27 hH ?_;refine kA 4 28 hH ?_;refine kA 5 29 hH ?_;refine rdy 6 (fun K hK=>?_);go_simp;refine(zaq y t _).mono ?_;rintro e w' ⟨rfl,hb'⟩;refine hK.out _ _ ⟨hH.1.below hb',hH.2.below hb'⟩ (fun hB=>?_);clear hK K;try simp only[Act.put,sA,sZ,sS]
    refine kA 7 31 hB ?_;refine dne ?_;have bz:=hb.drew.trans (hb'.mono hb.size);go_wp2;go_roundw
    case rel=>exact⟨lo,m,rfl,rfl,by have:=HM.out;omega,by omega,HA2,hB.1,bz⟩
    case measure=>have:=HM.out;simp[intOf];omega
  ·obtain rfl:hi=lo:=by omega
   have HP:Hid (atE es t=hi):=by have:=HA.out;unfold Hid;omega
   have HH:=has_at hok t;rw[HP.out] at HH;by_cases hpn:hi<es.length
   ·skip
    obtain⟨b,off,rfl,hc⟩:=(hr.below hb).at rfl hi hpn;obtain⟨y,hy⟩:∃ y,y=nth es hi:=⟨_,rfl⟩;rw[← hy] at hc HH;have HR:Hid (hasKS es t=(ordE y t==0)):=by
     unfold Hid;rw[HH,decide_eq_true hpn,Bool.true_and,Bool.eq_iff_iff,beq_iff_eq];exact(zds y t).symm
    have hkl:decide (hi<es.length)=true:=by simpa using hpn
    clear hy HH;go_wp2_with fail
    refine wp_region_noPanic ?_;refine wp_region_held_drew (S:=fun w'=>EntAt w' w.heap.size 0 t∧EntAt w' b (off+hi*4) y) (by kernel_rfl) ⟨hx0,hc⟩ (fun hH=>?_);refine kA 0 35 hH ?_;refine kA 1 36 hH ?_;refine kA 2 37 hH ?_;refine kA 3 38 hH ?_;refine kA 4 39 hH ?_;refine kA 5 40 hH ?_;refine kA 6 41 hH ?_;refine kA 7 42 hH ?_;refine kA 8 43 hH ?_;refine kA 9 44 hH ?_;refine kA 10 45 hH ?_;refine rdy 11 (fun K hK=>?_);go_simp;refine(zaq y t _).mono ?_;rintro e w' ⟨rfl,hb'⟩;refine hK.out _ _ ⟨hH.1.below hb',hH.2.below hb'⟩ (fun hB=>?_);clear hK K;try simp only[Act.put,sA,sZ,sS]
    refine kA 12 47 hB ?_;refine kA 13 48 hB ?_;refine kA 14 6 hB ?_;refine kA 15 7 hB ?_;refine dne ?_;have bz:=hb.drew.trans (hb'.mono hb.size);go_wp2;go_ret2
    exact⟨by rw[HP.out,HR.out];rfl,bz⟩
   ·skip
    have HR:Hid (hasKS es t=false):=by
     unfold Hid;rw[HH];simp[hpn]
    have hkl:decide (hi<es.length)=false:=by simpa using hpn
    clear HH;go_wp2_with fail
    refine wp_region_noPanic ?_;refine wp_region_held_drew (S:=fun w'=>EntAt w' w.heap.size 0 t) (by kernel_rfl) hx0 (fun hH=>?_);refine kA 0 35 hH ?_;refine kA 1 36 hH ?_;refine kA 2 37 hH ?_;refine kA 3 38 hH ?_;refine kA 4 39 hH ?_;refine kS 5 40 hH ?_;refine kS 6 41 hH ?_;refine kS 7 42 hH ?_;refine kS 8 43 hH ?_;refine kS 9 44 hH ?_;refine kS 10 45 hH ?_;refine kS 11 46 hH ?_;refine kS 12 47 hH ?_;refine kA 13 48 hH ?_;refine kA 14 6 hH ?_;refine kA 15 7 hH ?_;refine dne ?_;go_wp2;go_ret2
    exact⟨by rw[HP.out,HR.out];rfl,hb.drew⟩
theorem zhE(v:Value)(es:List Ent)(key:ByteArray)(q:Int)(w:World)(hr:RdE w v es)(hok:okL es=true) :
 Calls Tryz.prog 229 #[v,.string key,.int .i64 q] w fun e w' =>
  e=.returned (.tuple #[.int .i64 (atE es ⟨key,⟨#[]⟩,q,false⟩:Nat),.bool (hasKS es ⟨key,⟨#[]⟩,q,false⟩)])∧Below w.heap.size w w':=by
 go_enter Tryz.func229,Tryz.ntmps229
 go_wp2_with fail
 refine(znO v es ⟨key,⟨#[]⟩,q,false⟩ _ hr hok).mono ?_;rintro e w1 ⟨rfl,hb1⟩;go_wp2;go_ret2
 exact⟨rfl,hb1⟩
open Go.RowKit
theorem zaN(v:Value)(es:List Ent)(w:World)(hr:RdE w v es)(hf:∀ e∈es,Fits e)(h:okL es=true) :
 Calls Tryz.prog 151 #[v] w fun e w'=>e=.returned (.bool true)∧Below w.heap.size w w':=by
 have:=zaj v es w hr hf;rwa [h] at this
theorem zdp(v:Value)(es:List Ent)(w:World)(hr:RdE w v es)(hf:∀ e∈es,Fits e)(h:okL es=false) :
 Calls Tryz.prog 151 #[v] w fun e w'=>e=.returned (.bool false)∧Below w.heap.size w w':=by
 have:=zaj v es w hr hf;rwa [h] at this
theorem znC(v:Value)(es:List Ent)(key:ByteArray)(q:Int)(w:World)(hr:RdE w v es)(hok:okL es=true) :
 Calls Tryz.prog 204 #[v,.string key,.int .i64 q] w fun e w'=>zd5 w (seenL es key q) e w':=by
 obtain⟨a,cap,hv,hl,hm,_⟩:=id hr;unfold maxLen at hm;subst hv;have hz:=zew w 94;have hz1:=za w (.cells #[.string ⟨#[]⟩,.string ⟨#[]⟩,.int .i64 0,.bool false] 94);have hr2:=hr.below hz1;have hlen:=zZ hok;have RES:=seen_at hok key q ⟨key,⟨#[]⟩,q,false⟩ rfl rfl;obtain⟨p,hp⟩:∃ p,p=atE es ⟨key,⟨#[]⟩,q,false⟩:=⟨_,rfl⟩;have hpl:p≤es.length:=by rw[hp];exact zjG _ _
 obtain⟨h0,hh0⟩:∃ h0,h0=hasKS es ⟨key,⟨#[]⟩,q,false⟩:=⟨_,rfl⟩;rw[← hp] at RES;have HP:Hid (∀ u w',RdE w' u es→Calls Tryz.prog 229 #[u,.string key,.int .i64 q] w' fun e w''=>e=.returned (.tuple #[.int .i64 (p:Nat),.bool h0])∧Below w'.heap.size w' w''):=fun u w' h=>by rw[hp,hh0];exact zhE u es key q w' h hok
 have RES2:Hid (seenL es key q=if p<es.length∧(nth es p).key=key then some (nth es p) else none):=RES;clear hp hh0 RES;by_cases hpn:p<es.length
 ·have hpe:((p:Int)==(es.length:Int))=false:=by simp;omega
  obtain⟨y,hy⟩:∃ y,y=nth es p:=⟨_,rfl⟩;have KB:=zcb y.key key;cases hke:kEq y.key key with
  | false =>
   rw[hke] at KB;have RES:Hid (seenL es key q=none):=by
    unfold Hid;rw[RES2.out,if_neg];rintro ⟨_,h⟩;rw[← hy] at h;simp[kEq,h] at hke
   go_enter Tryz.func204,Tryz.ntmps204
   go_wp2_with fail
   refine(HP.out _ _ hr2).mono ?_;rintro e w2 ⟨rfl,hb2⟩;obtain⟨z0,z1,z2,z3,f0,f1,f2,f3⟩:=(hz.below hb2).facts;have bz:=hz1.trans (hb2.mono (by simp));obtain⟨b,off,rfl,hc⟩:=(hr2.below hb2).at rfl p hpn;rw[← hy] at hc;obtain⟨c0,c1,c2,c3⟩:=hc;clear hz hb2 hz1 hy hr2;go_wp2;exact bodyPost_ret (v:=.tuple #[.agg #[.string ⟨#[]⟩,.string ⟨#[]⟩,.int .i64 0,.bool false],.bool false]) (by simp[results,Tryz.results204,go_sem,z0,z1,z2,z3]) rfl (zcU RES.out (zba bz (Nat.le_refl _) _ _ _ _ _ _ _ _))
  | true =>
   rw[hke] at KB;have RES:Hid (seenL es key q=some y):=by
    unfold Hid;rw[RES2.out,if_pos ⟨hpn,by rw[← hy];unfold kEq at hke;exact of_decide_eq_true hke⟩,← hy]
   go_enter Tryz.func204,Tryz.ntmps204
   go_wp2_with fail
   refine(HP.out _ _ hr2).mono ?_;rintro e w2 ⟨rfl,hb2⟩;obtain⟨z0,z1,z2,z3,f0,f1,f2,f3⟩:=(hz.below hb2).facts;have bz:=hz1.trans (hb2.mono (by simp));obtain⟨b,off,rfl,hc⟩:=(hr2.below hb2).at rfl p hpn;rw[← hy] at hc;obtain⟨c0,c1,c2,c3⟩:=hc;clear hz hb2 hz1 hy hr2;go_wp2;exact bodyPost_ret (v:=.tuple #[.agg #[.string y.key,.string y.val,.int .i64 y.seq,.bool y.gone],.bool true]) (by simp[results,Tryz.results204,go_sem,z0,z1,z2,z3]) rfl (zex RES.out (zba bz (Nat.le_refl _) _ _ _ _ _ _ _ _))
 ·have hpe:((p:Int)==(es.length:Int))=true:=by simp;omega
  have RES:Hid (seenL es key q=none):=by unfold Hid;rw[RES2.out,if_neg (fun h=>hpn h.1)]
  go_enter Tryz.func204,Tryz.ntmps204
  go_wp2_with fail
  refine(HP.out _ _ hr2).mono ?_;rintro e w2 ⟨rfl,hb2⟩;obtain⟨z0,z1,z2,z3,f0,f1,f2,f3⟩:=(hz.below hb2).facts;have bz:=hz1.trans (hb2.mono (by simp));clear hz hb2 hz1 hr2;go_wp2;exact bodyPost_ret (v:=.tuple #[.agg #[.string ⟨#[]⟩,.string ⟨#[]⟩,.int .i64 0,.bool false],.bool false]) (by simp[results,Tryz.results204,go_sem,z0,z1,z2,z3]) rfl (zcU RES.out (zba bz (Nat.le_refl _) _ _ _ _ _ _ _ _))
end Go.Proofs.YtannfbpohhnnkaaGreatDoor
