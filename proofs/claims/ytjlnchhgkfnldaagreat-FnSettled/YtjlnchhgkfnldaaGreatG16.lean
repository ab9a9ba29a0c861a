import Derived.Test.YtjlnchhgkfnldaaGreatG15
import Derived.Test.YtjlnchhgkfnldaaGreatG14
namespace Go.Proofs.YtjlnchhgkfnldaaGreat
set_option maxHeartbeats 16000000
set_option maxRecDepth 100000
open Go.RowKit
theorem zjf{w:World}{b:Nat}{f l:ByteArray}{vb vk vb':Value}(h:BoxT w b f l vb vk):BoxT (w.setCell ⟨b,2,none⟩ vb') b f l vb' vk:=by
 unfold BoxT at h ⊢;exact heap_setCell_same w b 2 _ _ vb' h
theorem zbD{w:World}{b c j:Nat}{f l:ByteArray}{vb vk u:Value}(h:BoxT w b f l vb vk)(hn:b≠c):BoxT (w.setCell ⟨c,j,none⟩ u) b f l vb vk:=h.block (heap_setCell_other w ⟨c,j,none⟩ b u hn)
open Go.RowKit
theorem Tryz.infoT56:(Tryz.prog.info? 56).map (fun i=>(i.zero,i.size,i.bytes))=some (some (.agg #[.string ⟨#[]⟩,.string ⟨#[]⟩,.slice none 0 0,.slice none 0 0]),4,80):=by kernel_rfl
def TC(t:TV):List Value:=[.string t.T.first,.string t.T.last,t.vb,t.vk]
def TVs(ts:List TV):List Value:=ts.flatMap TC
theorem zhN(a b:List TV):TVs (a++b)=TVs a++TVs b:=by simp[TVs]
theorem zcd(a:TV)(r:List TV):TVs (a::r)=TC a++TVs r:=by simp[TVs]
theorem zch(ts:List TV):(TVs ts).length=ts.length*4:=by
 induction ts with
 | nil=>rfl
 | cons a r ih=>rw[zcd,lA,ih];simp[TC];omega
theorem zgm:∀ (ts:List TV) (i:Nat),i<ts.length→∀ j,j<4→(TVs ts)[i*4+j]? = (TC (nthT ts i))[j]?
 | [],i,h=>by simp at h
 | a::r,0,_=>fun j hj=>by
  rw[zcd,Nat.zero_mul,Nat.zero_add,List.getElem?_append_left (by simp[TC];exact hj)];rfl
 | a::r,i+1,h=>fun j hj=>by
  have hn:nthT (a::r) (i+1)=nthT r i:=by simp[nthT,List.getD]
  rw[zcd,hn,← zgm r i (by simpa using h) j hj,List.getElem?_append_right (by simp[TC];omega)];congr 1
  simp[TC];omega
def OwnT(w:World)(base:Nat)(v:Value)(ts:List TV):Prop:=w.ownsRow base 56 4 v ts.length (TVs ts)
def InT(w:World)(B:Nat)(ts:List TV):Prop:=∀ t∈ts,OwnI w B t.vb t.T.bits∧OwnS w B t.vk t.T.blocks
theorem OwnT.below{w w':World}{B:Nat}{v:Value}{ts:List TV}(h:OwnT w B v ts)(hb:Below w.heap.size w w'):OwnT w' B v ts:=zaZ h hb
theorem InT.below{w w':World}{B:Nat}{ts:List TV}(h:InT w B ts)(hb:Below w.heap.size w w'):InT w' B ts:=fun t ht=>⟨(h t ht).1.below hb,(h t ht).2.below hb⟩
theorem InT.grown{w w':World}{B B':Nat}{o:Value}{ts us:List TV}(h:InT w B ts)(ho:OwnT w B' o us)(hg:w.grownBy w' o.ownBlock):InT w' B ts:=fun t ht =>
 ⟨zl (h t ht).1 hg (fun k hk e=>zh (h t ht).1 ho (by decide) k hk e),zl (h t ht).2 hg (fun k hk e=>zh (h t ht).2 ho (by decide) k hk e)⟩
theorem InT.push{w:World}{B:Nat}{ts:List TV}{t:TV}(h:InT w B ts)(h1:OwnI w B t.vb t.T.bits)(h2:OwnS w B t.vk t.T.blocks):InT w B (ts++[t]):=fun x hx=>by
 rcases List.mem_append.1 hx with hx | hx
 ·exact h x hx
 ·rw[List.mem_singleton.1 hx];exact⟨h1,h2⟩
theorem zoF{w:World}{B:Nat}{v:Value}{ts:List TV}{t:TV}(h:w.ownsRow B 56 4 v (ts.length+1) (TVs ts++TC t)):OwnT w B v (ts++[t]):=by
 unfold OwnT;rw[lA,zhN,show TVs [t]=TC t by simp[TVs]];exact h
theorem zc2(w:World):OwnT (w.alloc (.cells #[] 56)) w.heap.size (.slice (some ⟨w.heap.size,0,none⟩) 0 0) []:=World.ownsRow_lit w #[] 0 (nR _) (Nat.zero_le _) rfl
theorem OwnT.rd{w:World}{B B':Nat}{v:Value}{ts:List TV}(h:OwnT w B v ts)(hi:InT w B' ts):RdTs w v ts:=by
 have h':=h;have hin:∀ t∈ts,RdI w t.vb t.T.bits∧RdS w t.vk t.T.blocks:=fun t ht=>⟨(hi t ht).1.rd,(hi t ht).2.rd⟩
 rcases h.2 with ⟨rfl,h0⟩ | ⟨g,cap,cur,rfl,hb,hg,hn,hc,hs,ht⟩
 ·have:ts=[]:=List.length_eq_zero_iff.1 h0;subst this;exact⟨none,0,rfl,nR _,Nat.zero_le _,.inl rfl,hin⟩
 ·refine⟨_,cap,rfl,hn,hc,.inr ⟨g,0,rfl,fun i hi=>?_⟩,hin⟩;have c:∀ j,j<4→w.cell? ⟨g,i*4+j,none⟩=(TC (nthT ts i))[j]?:=fun j hj=>(World.ownsRow.cellAt h' (i*4+j) (by omega)).trans (zgm ts i hi j hj)
  rw[Nat.zero_add];exact⟨c 0 (by omega),c 1 (by omega),c 2 (by omega),c 3 (by omega)⟩
def ziz(w:World)(ts:List TV)(e:Ending)(w':World):Prop :=
 ∃ u us,e=.returned u∧us.map (·.T)=ts.map (·.T)∧OwnT w' w.heap.size u us∧InT w' w.heap.size us∧Below w.heap.size w w'
theorem one_tab(w:World)(t:TV)(ty:TypeId)(n:Nat)(hn:n=w.heap.size):∀ j u,(TC t)[j]? = some u→(w.alloc (.cells #[.string t.T.first,.string t.T.last,t.vb,t.vk] ty)).cell? ((⟨n,0,none⟩:Addr).add j)=some u:=by
 intro j u h;subst hn;match j with
 | 0=>cases h;simp[Addr.add,World.cell?_alloc_at]
 | 1=>cases h;simp[Addr.add,World.cell?_alloc_at]
 | 2=>cases h;simp[Addr.add,World.cell?_alloc_at]
 | 3=>cases h;simp[Addr.add,World.cell?_alloc_at]
 | j+4=>simp[TC] at h
theorem zpk{w:World}{b:Nat}{f l:ByteArray}{vb vk vb':Value}(h:BoxT w b f l vb vk):BoxT (w.setCell ⟨b,2,none⟩ vb') b f l vb' vk:=by
 unfold BoxT at h ⊢;exact heap_setCell_same w b 2 _ _ vb' h
theorem zny{w:World}{b:Nat}{f l:ByteArray}{vb vk vk':Value}(h:BoxT w b f l vb vk):BoxT (w.setCell ⟨b,3,none⟩ vk') b f l vb vk':=by
 unfold BoxT at h ⊢;exact heap_setCell_same w b 3 _ _ vk' h
theorem InT.set{w:World}{B b j:Nat}{f l:ByteArray}{vb vk u:Value}{us:List TV}(h:InT w B us)(hx:BoxT w b f l vb vk):InT (w.setCell ⟨b,j,none⟩ u) B us:=fun t ht =>
 ⟨zi (h t ht).1 (zO hx (h t ht).1 (by decide)),zi (h t ht).2 (zO hx (h t ht).2 (by decide))⟩
theorem zfB(v:Value)(ts:List TV)(w:World)(hr:RdTs w v ts)(hn:ts.length≤1000000)(hl:∀ t∈ts,t.T.bits.length≤1000000000∧t.T.blocks.length≤1000000000∧NilOk t.vk) :
 Calls Tryz.prog 79 #[v] w fun e w'=>ziz w ts e w':=by
 obtain⟨i0,hi,hz0,hz1,hz2⟩:=info_parts Tryz.infoT56;obtain⟨a,cap,hv,hla,hma,-⟩:=id hr;obtain⟨nn,hnn⟩:∃ nn,nn=ts.length:=⟨_,rfl⟩;rw[← hnn] at hv hla hn;have HNN:Hid (nn=ts.length):=hnn;have HL:Hid (∀ t∈ts,t.T.bits.length≤1000000000∧t.T.blocks.length≤1000000000∧NilOk t.vk):=hl;subst hv;unfold maxLen at hma;have ho0:=zc2 w;have b0:=ze w (.cells #[] 56);clear hnn hl;go_enter Tryz.func79,Tryz.ntmps79
 go_wp2;go_loopw [3,4] (fun o i wr=>∃ (k:Nat) (us:List TV),k≤nn∧i=.int .i64 k∧us.length=k∧OwnT wr w.heap.size o us∧Hid (InT wr w.heap.size us)∧Hid (us.map (·.T)=(ts.take k).map (·.T))∧Below w.heap.size w wr) (fun _ i _=>nn-(intOf i).toNat)
 case atStart=>exact⟨0,[],Nat.zero_le _,rfl,rfl,ho0,(fun t ht=>by cases ht),rfl,b0⟩
 case round =>
  clear ho0 b0;obtain⟨k,us,hk,rfl,hul,ho,HI,HT,hb⟩:=hrel;by_cases hlt:k<nn
  ·have hkl:k<ts.length:=(by rw[← HNN.out];exact hlt);obtain⟨b,off,rfl,hc,hri,hrs⟩:=(hr.below hb).at k hkl;have hkc:k<cap:=(by omega);have hmt:nthT ts k∈ts:=(by rw[zba hkl];exact List.getElem_mem hkl);obtain⟨hn1,hn2,hn3⟩:=HL.out _ hmt;have HTS:Hid ((ts.take (k+1)).map (·.T)=(ts.take k).map (·.T)++[(nthT ts k).T]):=by
    unfold Hid;rw[List.take_succ_eq_append_getElem hkl,List.map_append,zba hkl];rfl
   generalize nthT ts k=t at hc hri hrs hn1 hn2 hn3 HTS;obtain⟨T,vb,vk⟩:=t;simp only at hri hrs hn1 hn2 hn3 HTS;obtain⟨c0,c1,c2,c3⟩:=id hc;simp only at c0 c1 c2 c3;obtain⟨ai,ci,hvi,-⟩:=id hri;obtain⟨ak,ck,hvk,-⟩:=id hrs;obtain⟨bn,hbn⟩:∃ bn,bn=T.bits.length:=⟨_,rfl⟩;obtain⟨kn,hkn⟩:∃ kn,kn=T.blocks.length:=⟨_,rfl⟩;rw[← hbn] at hvi hn1;rw[← hkn] at hvk hn2;subst hvi;subst hvk;have HBN:Hid (bn=T.bits.length):=hbn;have HKN:Hid (kn=T.blocks.length):=hkn;clear hbn hkn;have hs:=hb.size;have hx1:=zbL wr T.first T.last (.slice ai bn ci) (.slice ak kn ck);have bb1:=ze wr (.cells #[.string T.first,.string T.last,.slice ai bn ci,.slice ak kn ck] 56);obtain⟨W1,hW1⟩:∃ W1,W1=wr.alloc (.cells #[.string T.first,.string T.last,.slice ai bn ci,.slice ak kn ck] 56):=⟨_,rfl⟩;rw[← hW1] at hx1 bb1;have s1:W1.heap.size=wr.heap.size+1:=(by rw[hW1];simp);have bb2:=ze W1 (.cells #[] 2);have hx2:=hx1.below bb2;have s2:(W1.alloc (.cells #[] 2)).heap.size=wr.heap.size+2:=(by simp[s1]);have hoi:=zcn W1;rw[s1] at hoi bb2;have HW1:Hid (wr.alloc (.cells #[.string T.first,.string T.last,.slice ai bn ci,.slice ak kn ck] 56)=W1):=hW1.symm;clear hW1;go_wp2_with (at_builtin;(refine zaw rfl _ _ rfl (wr.heap.size+1) _ _ [] T.bits rfl rfl ?c1 ?c2 ?c3 ?c4 ?_))
   case c1=>rw[HW1.out];exact hoi
   case c2=>rw[HW1.out];exact(hri.below bb1).below (by rw[s1];exact bb2)
   case c3=>have:=HBN.out;simp;omega
   rw[HW1.out];intro v3 w3 ho3 hg3;have hx3:BoxT w3 wr.heap.size T.first T.last (.slice ai bn ci) (.slice ak kn ck):=hx2.block (hg3.block wr.heap.size (by rw[s2];omega) (fun e=>by have:wr.heap.size=wr.heap.size+1:=Option.some.inj e;omega));have b3:Below (wr.heap.size+1) W1 w3:=bb2.grown hg3 (by rw[s2];omega) (fun k hk=>by have:wr.heap.size+1=k:=Option.some.inj hk;omega);have b3':Below wr.heap.size wr w3:=bb1.trans (b3.mono (by omega));obtain⟨a3,c3',hv3,-⟩:=id ho3.rd;rw[← HBN.out] at hv3;subst hv3;obtain⟨y0,y1,y2,y3,g0,g1,g2,g3⟩:=hx3.facts;have hx4:BoxT (w3.setCell ⟨wr.heap.size,2,none⟩ (.slice a3 bn c3')) wr.heap.size T.first T.last (.slice a3 bn c3') (.slice ak kn ck):=zpk hx3;have b4:Below wr.heap.size wr (w3.setCell ⟨wr.heap.size,2,none⟩ (.slice a3 bn c3')):=b3'.setCell (nR _) _;have ho4:OwnI (w3.setCell ⟨wr.heap.size,2,none⟩ (.slice a3 bn c3')) (wr.heap.size+1) (.slice a3 bn c3') T.bits:=zi ho3 (zO hx3 ho3 (by decide));have s4:(w3.setCell ⟨wr.heap.size,2,none⟩ (.slice a3 bn c3')).heap.size=w3.heap.size:=(by simp);have s3:=b3.size;obtain⟨W4,hW4⟩:∃ W4,W4=w3.setCell ⟨wr.heap.size,2,none⟩ (.slice a3 bn c3'):=⟨_,rfl⟩;rw[← hW4] at hx4 b4 ho4 s4;have HW4:Hid (w3.setCell ⟨wr.heap.size,2,none⟩ (.slice a3 bn c3')=W4):=hW4.symm;have s4':wr.heap.size+1≤W4.heap.size:=(by omega);have bb5:=ze W4 (.cells #[] 9);have hx5:=hx4.below bb5;have hos:=zgP W4;rw[s4] at hos;obtain⟨z0,z1,z2,z3,h0,h1,h2,h3⟩:=hx5.facts;have s5:(W4.alloc (.cells #[] 9)).heap.size=W4.heap.size+1:=(by simp)
   rw[hW4] at z0 z1 z2 z3 h0 h1 h2 h3;clear hW4 hx1 hx2 hx3 hoi ho3 hg3 bb1 bb2 b3 b3' s2 HW1;go_wp2_with (at_builtin;(refine zcy rfl _ _ rfl w3.heap.size _ _ [] T.blocks rfl rfl ?d1 ?d2 ?d3 ?d4 ?d5 ?_))
   case d1=>rw[HW4.out];exact hos
   case d2=>rw[HW4.out];exact(hrs.below b4).below bb5
   case d3=>exact hn3
   case d4=>have:=HKN.out;simp;omega
   case d5=>rw[HW4.out,s5];omega
   rw[HW4.out];intro v6 w6 ho6 hg6;clear z0 z1 z2 z3 h0 h1 h2 h3 y0 y1 y2 y3 g0 g1 g2 g3 HW4;rw[← s4] at ho6 hg6;have hx6:BoxT w6 wr.heap.size T.first T.last (.slice a3 bn c3') (.slice ak kn ck):=hx5.block (hg6.block wr.heap.size (by rw[s5];omega) (fun e=>by have:wr.heap.size=W4.heap.size:=Option.some.inj e;omega));have b6:Below W4.heap.size W4 w6:=bb5.grown hg6 (by rw[s5];omega) (fun k hk=>by have:W4.heap.size=k:=Option.some.inj hk;omega);have b6':Below wr.heap.size wr w6:=b4.trans (b6.mono (by omega));obtain⟨a6,c6,hv6,-⟩:=id ho6.rd;rw[← HKN.out] at hv6;subst hv6;obtain⟨y0,y1,y2,y3,g0,g1,g2,g3⟩:=hx6.facts;have hx7:BoxT (w6.setCell ⟨wr.heap.size,3,none⟩ (.slice a6 kn c6)) wr.heap.size T.first T.last (.slice a3 bn c3') (.slice a6 kn c6):=zny hx6;have b7:Below wr.heap.size wr (w6.setCell ⟨wr.heap.size,3,none⟩ (.slice a6 kn c6)):=b6'.setCell (nR _) _;have hi7:OwnI (w6.setCell ⟨wr.heap.size,3,none⟩ (.slice a6 kn c6)) (wr.heap.size+1) (.slice a3 bn c3') T.bits:=zi (ho4.below b6) (zO hx6 (ho4.below b6) (by decide));have hs7:OwnS (w6.setCell ⟨wr.heap.size,3,none⟩ (.slice a6 kn c6)) W4.heap.size (.slice a6 kn c6) T.blocks:=zi ho6 (zO hx6 ho6 (by decide));have ho7:=ho.below b7;have HI7:=HI.out.below b7;have s7:(w6.setCell ⟨wr.heap.size,3,none⟩ (.slice a6 kn c6)).heap.size=w6.heap.size:=(by simp);obtain⟨W7,hW7⟩:∃ W7,W7=w6.setCell ⟨wr.heap.size,3,none⟩ (.slice a6 kn c6):=⟨_,rfl⟩;rw[← hW7] at hx7 b7 hi7 hs7 ho7 HI7 s7
   have HW7:Hid (w6.setCell ⟨wr.heap.size,3,none⟩ (.slice a6 kn c6)=W7):=hW7.symm;obtain⟨z0,z1,z2,z3,-,-,-,-⟩:=hx7.facts;rw[hW7] at z0 z1 z2 z3;have HIN:Hid (InT W7 w.heap.size (us++[⟨T,.slice a3 bn c3',.slice a6 kn c6⟩])):=HI7.push (hi7.mono (by omega)) (hs7.mono (by omega));have HB7:Hid (Below w.heap.size w W7):=hb.trans (b7.mono hs);have hs7':w.heap.size≤W7.heap.size:=HB7.out.size;clear hW7 hx4 hx5 hx6 hx7 b4 b6 b6' b7 ho4 ho6 hg6 hos bb5 HI7 hi7 hs7 ho HI hc hri hrs c0 c1 c2 c3 s5 s4 s4' hb hn3;go_wp2_with (at_builtin;(refine wpList_append_own _ rfl _ _ 25 rfl w.heap.size 56 i0 _ 4 80 Tryz.underlying25 hi hz0 hz1 hz2 rfl (by decide) u3 us.length (TVs us) rfl ?e0 ⟨w6.heap.size,0,none⟩ 1 1 (TC ⟨T,.slice a3 bn c3',.slice a6 kn c6⟩) rfl rfl ?e1 ?e2 ?e3 ?e4 ?e5 ?_))
   case e0=>rw[HW7.out];exact World.ownsRow.alloc ho7 _
   case e1=>rw[HW7.out];exact one_tab _ ⟨T,.slice a3 bn c3',.slice a6 kn c6⟩ _ _ s7.symm
   case e2=>intro z hz;simp[TC] at hz;rcases hz with rfl | rfl | rfl | rfl<;>rfl
   case e3=>unfold maxLen;omega
   case e4=>omega
   case e5=>simp;omega
   rw[HW7.out];intro v9 w9 ho9 hg9 _;have bb8:=ze W7 (.cells #[.string T.first,.string T.last,.slice a3 bn c3',.slice a6 kn c6] 56);rw[← hul] at ho9;have r1:=zoF (t:=⟨T,.slice a3 bn c3',.slice a6 kn c6⟩) ho9;have R2:Hid (InT w9 w.heap.size (us++[⟨T,.slice a3 bn c3',.slice a6 kn c6⟩])):=(HIN.out.below bb8).grown (ho7.below bb8) hg9;have R3:Hid ((us++[(⟨T,.slice a3 bn c3',.slice a6 kn c6⟩:TV)]).map (·.T)=(ts.take (k+1)).map (·.T)):=(by unfold Hid;rw[List.map_append,HT.out,HTS.out];rfl);have b9:Below w.heap.size w w9:=(HB7.out.alloc hs7' _).grown hg9 (by simp;omega) (fun k hk=>(oL ho7 k hk).1);have hul9:(us++[(⟨T,.slice a3 bn c3',.slice a6 kn c6⟩:TV)]).length=k+1:=(by rw[lA,hul];rfl);clear ho7 HIN HB7 bb8 ho9 hg9 HW7 HTS HT;go_wp2;go_roundw
   case rel=>exact⟨k+1,_,by omega,by go_num,hul9,r1,R2,R3,b9⟩
   case measure=>simp[intOf];omega
  ·skip
   have hke:k=nn:=(by omega);subst hke;have HT2:Hid (us.map (·.T)=ts.map (·.T)):=(by have:=HT.out;rw[HNN.out,List.take_length] at this;exact this);clear HT;go_wp2;go_ret;exact⟨_,us,rfl,HT2.out,ho,HI.out,hb⟩
end Go.Proofs.YtjlnchhgkfnldaaGreat
