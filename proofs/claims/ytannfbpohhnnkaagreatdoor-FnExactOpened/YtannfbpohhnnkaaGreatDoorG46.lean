import Derived.Test.YtannfbpohhnnkaaGreatDoorG45
namespace Go.Proofs.YtannfbpohhnnkaaGreatDoor
set_option maxHeartbeats 16000000
set_option maxRecDepth 100000
open Go.RowKit
def Row7(w:World)(b:Nat)(t:TypeId)(u0 u1 u2 u3 u4 u5 u6:Value):Prop:=w.heap[b]? = some (.cells #[u0,u1,u2,u3,u4,u5,u6] t (0,0))
def put7(w:World)(b:Nat)(u0 u1 u2 u3 u4 u5 u6:Value):World:=((((((w.setCell ⟨b,0,none⟩ u0).setCell ⟨b,1,none⟩ u1).setCell ⟨b,2,none⟩ u2).setCell ⟨b,3,none⟩ u3).setCell ⟨b,4,none⟩ u4).setCell ⟨b,5,none⟩ u5).setCell ⟨b,6,none⟩ u6
theorem Row7.lt{w:World}{b:Nat}{t:TypeId}{u0 u1 u2 u3 u4 u5 u6:Value}(h:Row7 w b t u0 u1 u2 u3 u4 u5 u6):b<w.heap.size:=(Array.getElem?_eq_some_iff.1 h).1
theorem Row7.on{w w':World}{b:Nat}{t:TypeId}{u0 u1 u2 u3 u4 u5 u6:Value}(h:Row7 w b t u0 u1 u2 u3 u4 u5 u6)(hb:Below w.heap.size w w'):Row7 w' b t u0 u1 u2 u3 u4 u5 u6:=(hb.block b h.lt).trans h
theorem zaz(w:World)(t:TypeId)(u0 u1 u2 u3 u4 u5 u6:Value):Row7 (w.alloc (.cells #[u0,u1,u2,u3,u4,u5,u6] t)) w.heap.size t u0 u1 u2 u3 u4 u5 u6:=heap_alloc_new w _
def zm5(w:World)(b:Nat)(u0 u1 u2 u3 u4 u5 u6:Value):Prop:=w.cell? ⟨b,0,none⟩=some u0∧w.cell? ⟨b,1,none⟩=some u1∧w.cell? ⟨b,2,none⟩=some u2∧w.cell? ⟨b,3,none⟩=some u3∧w.cell? ⟨b,4,none⟩=some u4∧w.cell? ⟨b,5,none⟩=some u5∧w.cell? ⟨b,6,none⟩=some u6
def Free7(w:World)(b:Nat):Prop:=w.frozen? ⟨b,0,none⟩=false∧w.frozen? ⟨b,1,none⟩=false∧w.frozen? ⟨b,2,none⟩=false∧w.frozen? ⟨b,3,none⟩=false∧w.frozen? ⟨b,4,none⟩=false∧w.frozen? ⟨b,5,none⟩=false∧w.frozen? ⟨b,6,none⟩=false
theorem Row7.cells{w:World}{b:Nat}{t:TypeId}{u0 u1 u2 u3 u4 u5 u6:Value}(h:Row7 w b t u0 u1 u2 u3 u4 u5 u6):zm5 w b u0 u1 u2 u3 u4 u5 u6:=by
 unfold Row7 at h;refine⟨?_,?_,?_,?_,?_,?_,?_⟩<;>simp[World.cell?,h]
theorem Row7.free{w:World}{b:Nat}{t:TypeId}{u0 u1 u2 u3 u4 u5 u6:Value}(h:Row7 w b t u0 u1 u2 u3 u4 u5 u6):Free7 w b:=by
 unfold Row7 at h;refine⟨?_,?_,?_,?_,?_,?_,?_⟩<;>simp[World.frozen?,h]
theorem Row7.put{w:World}{b:Nat}{t:TypeId}{a0 a1 a2 a3 a4 a5 a6:Value}(h:Row7 w b t a0 a1 a2 a3 a4 a5 a6)(u0 u1 u2 u3 u4 u5 u6:Value):Row7 (put7 w b u0 u1 u2 u3 u4 u5 u6) b t u0 u1 u2 u3 u4 u5 u6:=by
 unfold Row7 at h ⊢;have h0:=heap_setCell_same w b 0 _ _ u0 h;have h1:=heap_setCell_same _ b 1 _ _ u1 h0;have h2:=heap_setCell_same _ b 2 _ _ u2 h1;have h3:=heap_setCell_same _ b 3 _ _ u3 h2;have h4:=heap_setCell_same _ b 4 _ _ u4 h3;have h5:=heap_setCell_same _ b 5 _ _ u5 h4;exact heap_setCell_same _ b 6 _ _ u6 h5
theorem zfx{w:World}{b:Nat}{u0 u1 u2 u3 u4 u5 u6:Value}:Touch [b] w (put7 w b u0 u1 u2 u3 u4 u5 u6) :=
 ((((((Touch.set (by simp)).trans (Touch.set (by simp))).trans (Touch.set (by simp))).trans (Touch.set (by simp))).trans (Touch.set (by simp))).trans (Touch.set (by simp))).trans (Touch.set (by simp))
theorem zdQ{a w:World}{B c:Nat}{u0 u1 u2 u3 u4 u5 u6:Value}(h:Below B a w)(hc:B≤c):Below B a (put7 w c u0 u1 u2 u3 u4 u5 u6):=((((((h.setCell hc _).setCell hc _).setCell hc _).setCell hc _).setCell hc _).setCell hc _).setCell hc _
theorem zdg{w:World}{lo c:Nat}{Y:TrX}{u0 u1 u2 u3 u4 u5 u6:Value}(h:OwnTree w lo Y)(hc:c<lo):OwnTree (put7 w c u0 u1 u2 u3 u4 u5 u6) lo Y:=by
 have hn:c ∉ trB Y:=fun e=>by have:=(h.bound e).1;omega
 exact((((((h.other hn).other hn).other hn).other hn).other hn).other hn).other hn
theorem zdV{d:List UInt8}{ts:List ByteArray}{m k n:Nat}{T:Tre}(h:RecsP d ts m)(e:repK ts k=some (T,n))(_:k≤ts.length):joinR ts k=d.take n∧n≤d.length:=by
 have h1:=zjO h;have h2:joinR ts ts.length=joinR ts k++((ts.drop k).map fun t=>(recS t).data.toList).flatten:=by
  unfold joinR;rw[List.take_length];conv=>lhs;rw[← List.take_append_drop k ts]
  rw[List.map_append,List.flatten_append]
 have h3:=(zeM e).1;rw[h2] at h1;have h4:=congrArg (List.take n) h1;rw[List.take_append_of_le_length (by omega),List.take_of_length_le (by omega),List.take_take] at h4;have h5:=congrArg List.length h1;rw[List.length_append,List.length_take] at h5;have h6:=h.2.1;exact⟨by rw[h4,Nat.min_eq_left (by omega)],by omega⟩
structure LP (w W:World) (b2 b3:Nat) (u:Value) (ts:List ByteArray) (X:TrX) (l:ByteArray):Prop where
 kb:BoxK W b3 X l 0
 rows:OwnTree W (b3+1) X
 tree:TreeP X.tre
 res:BoxK W b2 ⟨.slice none 0 0,.slice none 0 0,.slice none 0 0,.slice none 0 0,[],[],[],0,[]⟩ ⟨#[]⟩ 0
 tx:OwnS W (b3+1) u ts
 bw:Below w.heap.size w W
theorem LP.on{w W W':World}{b2 b3:Nat}{u:Value}{ts:List ByteArray}{X:TrX}{l:ByteArray}(h:LP w W b2 b3 u ts X l)(hb:Below W.heap.size W W'):LP w W' b2 b3 u ts X l:=⟨h.kb.on hb,h.rows.below hb,h.tree,h.res.on hb,h.tx.below hb,h.bw.trans (hb.mono h.bw.size)⟩
theorem LP.add{w W W':World}{b2 b3:Nat}{u:Value}{ts:List ByteArray}{X Y:TrX}{l l':ByteArray}(h:LP w W b2 b3 u ts X l)(hk:BoxK W' b3 Y l' 0)(ho:OwnTree W' W.heap.size Y)(hp:TreeP Y.tre)(ht:Touch [b3] W W')(h2:b2≠b3)(h3:w.heap.size≤b3):LP w W' b2 b3 u ts Y l':=by
 refine⟨hk,ho.lower h.kb.lt,hp,(ht.block b2 h.res.lt (fun e=>h2 (List.mem_singleton.1 e))).trans h.res,ht.row h.tx (fun k hk' e=>?_),ht.below h.bw (fun k hk=>by rw[List.mem_singleton.1 hk];exact h3)⟩;have h1:=(World.ownsRow.lt h.tx k hk').1;have h3:=List.mem_singleton.1 e;omega
def zgE(w:World)(T:Tre)(l:ByteArray)(e:Ending)(w':World):Prop :=
 ∃ Y:TrX,e=.returned (.agg #[Y.vm,Y.vy,Y.vo,.int .i64 Y.seq,Y.vs,.string l,.int .i64 0])∧Y.tre=T∧OwnTree w' w.heap.size Y∧Below w.heap.size w w'
theorem LP.fin{w W:World}{b2 b3:Nat}{u:Value}{ts:List ByteArray}{X:TrX}{T:Tre}{l l':ByteArray}(h:LP w W b2 b3 u ts X l)(hT:X.tre=T)(hl:l=l')(h2:b2=w.heap.size)(h3:b2<b3):zgE w T l' (.returned (.agg #[X.vm,X.vy,X.vo,.int .i64 X.seq,X.vs,.string l,.int .i64 0])) (put7 W b2 X.vm X.vy X.vo (.int .i64 X.seq) X.vs (.string l) (.int .i64 0)):=by
 subst hl;exact⟨X,rfl,hT,(zdg h.rows (by omega)).lower (by omega),zdQ h.bw (by omega)⟩
theorem ba_eq{a b:ByteArray}(h:a.data.toList=b.data.toList):a=b:=by
 obtain⟨⟨a⟩⟩:=a;obtain⟨⟨b⟩⟩:=b;simp only at h;rw[h]
theorem ziG(d:ByteArray)(x:Nat):(d.extract 0 x).data.toList=d.data.toList.take x:=by
 rw[ByteArray.data_extract,Array.toList_extract,List.extract_eq_take_drop];simp
theorem zka(d:ByteArray)(ts:List ByteArray)(m:Nat)(T:Tre)(n:Nat)(te:TypeId)(pe:Value)(w:World)(hd:d.size≤1048576)(hR:RecsP d.data.toList ts m)(hE:RepEnd ts T n)(hg:GErr w te pe)(hT:Tab w) :
 Calls Tryz.prog 40 #[.string d] w fun e w'=>zgE w T (d.extract 0 n) e w':=by
 have HR:Hid (RecsP d.data.toList ts m):=hR;have HE:Hid (RepEnd ts T n):=hE;have HD:Hid (d.size≤1048576):=hd;have HG:Hid (GErr w te pe):=hg;have HTB:Hid (Tab w):=hT;clear hR hE hd hg hT;obtain⟨b2,hb2⟩:∃ b,b=w.heap.size:=⟨_,rfl⟩;obtain⟨V0,hV0⟩:∃ V,V=w.alloc (.cells #[.slice none 0 0,.slice none 0 0,.slice none 0 0,.int .i64 0,.slice none 0 0,.string ⟨#[]⟩,.int .i64 0] 65):=⟨_,rfl⟩;have s0:V0.heap.size=b2+1:=by rw[hV0,hb2];simp
 obtain⟨W0,hW0⟩:∃ V,V=V0.alloc (.cells #[.slice none 0 0,.slice none 0 0,.slice none 0 0,.int .i64 0,.slice none 0 0,.string ⟨#[]⟩,.int .i64 0] 65):=⟨_,rfl⟩;have s1:W0.heap.size=b2+2:=by rw[hW0];simp[s0]
 have r0:BoxK V0 b2 ⟨.slice none 0 0,.slice none 0 0,.slice none 0 0,.slice none 0 0,[],[],[],0,[]⟩ ⟨#[]⟩ 0:=by rw[hV0,hb2];exact heap_alloc_new w _
 have r1:BoxK W0 (b2+1) ⟨.slice none 0 0,.slice none 0 0,.slice none 0 0,.slice none 0 0,[],[],[],0,[]⟩ ⟨#[]⟩ 0:=by rw[hW0,← s0];exact heap_alloc_new V0 _
 have bv:Below V0.heap.size V0 W0:=by rw[hW0];exact za V0 _
 have bw:Below w.heap.size w W0:=by
  have:Below w.heap.size w V0:=by rw[hV0];exact za w _
  exact this.trans (bv.mono this.size)
 have HW:Hid ((w.alloc (.cells #[.slice none 0 0,.slice none 0 0,.slice none 0 0,.int .i64 0,.slice none 0 0,.string ⟨#[]⟩,.int .i64 0] 65)).alloc (.cells #[.slice none 0 0,.slice none 0 0,.slice none 0 0,.int .i64 0,.slice none 0 0,.string ⟨#[]⟩,.int .i64 0] 65)=W0):=by unfold Hid;rw[hW0,hV0]
 have HB2:Hid (b2=w.heap.size):=hb2;have HB:Hid (w.heap.size=b2):=hb2.symm;have r2:=r0.on bv;clear r0 bv hV0 hW0 s0 hb2;go_enter Tryz.func40,Tryz.ntmps40
 go_wp2_with fail
 rw[HW.out,HB.out];clear HW;refine(zhi d ts m _ HD.out (HTB.out.on bw) HR.out).mono ?_;rintro e w1 ⟨u,rfl,ou,b⟩;obtain⟨au,cu,rfl,hcu,hmu,-⟩:=ou.rd;have Q:LP w w1 b2 (b2+1) (.slice au ts.length cu) ts ⟨.slice none 0 0,.slice none 0 0,.slice none 0 0,.slice none 0 0,[],[],[],0,[]⟩ ⟨#[]⟩:=⟨r1.on b,zbl _ _,zeZ,r2.on b,by rw[s1] at ou;exact ou,bw.trans (b.mono bw.size)⟩;clear r1 r2 ou b s1 bw;unfold maxLen at hmu;have htl:ts.length≤1048576:=by
  have h2:=HR.out.2.1;have h4:=zmZ HR.out;have h5:=HD.out;rw[ze] at h2;omega
 go_wp2_with fail
 go_loopw [18] (fun ii W=>∃ (k:Nat) (X:TrX) (l:ByteArray),k≤ts.length∧ii=.int .i64 k∧Hid (repK ts k=some (X.tre,l.size))∧Hid (l.data.toList=joinR ts k)∧Hid (LP w W b2 (b2+1) (.slice au ts.length cu) ts X l)) (fun ii _=>ts.length-(intOf ii).toNat)
 case atStart=>exact⟨0,⟨.slice none 0 0,.slice none 0 0,.slice none 0 0,.slice none 0 0,[],[],[],0,[]⟩,⟨#[]⟩,Nat.zero_le _,rfl,rfl,rfl,Q⟩
 case round =>
  obtain⟨k,X,l,hk,rfl,HP,HJ,HQ⟩:=hrel;clear Q;have Q:=HQ.out;clear HQ;by_cases hlt:k<ts.length
  ·obtain⟨gt,ot,rfl,hc⟩:=ziP Q.tx.rd k hlt;have hkc:k<cu:=by omega
   have h3k:ts[k].size≤3000:=HR.out.1 _ (List.getElem_mem hlt);have HT:Hid (ts[k].size≤1048576):=Nat.le_trans h3k (by decide);have HZ:Hid ((recS ts[k]).size≠0):=by unfold Hid;rw[zdv h3k];have:=(zdy h3k).1;omega
   have HST:=zdB HP.out hlt;have HJM:=zfO hlt;obtain⟨tk,htk⟩:∃ t,t=ts[k]:=⟨_,rfl⟩;rw[← htk] at hc HT HST HZ HJM;have HS1:Hid (repK ts (k+1)=if (rdB tk).2=true∧l.size+(recS tk).size≤20000 then (match addT X.tre (rdB tk).1 with | some T'=>some (T',l.size+(recS tk).size) | none=>none) else none):=by
    unfold Hid;rw[HST];split
    ·cases addT X.tre (rdB tk).1<;>rfl
    ·rfl
   have HJ1:Hid (joinR ts (k+1)=joinR ts k++(recS tk).data.toList):=HJM;clear htk h3k HST HJM;go_wp2_with fail
   refine(zfw tk (rdB tk) _ HT.out (zi5 tk)).mono ?_;rintro e w2 ⟨ub,rfl,ob,b⟩;replace Q:=Q.on b;clear b hc;obtain⟨ab,cb,rfl,-⟩:=ob.rd;cases hrb:(rdB tk).2 with
   | false =>
    have HN:Hid (repK ts (k+1)=none):=by unfold Hid;rw[HS1.out,if_neg (fun c=>by have:=c.1;rw[hrb] at this;cases this)]
    clear HS1 HJ1 HZ HT hrb ob;obtain⟨am1,ay1,ao1,an1,mn1,yn1,on1,nn1,cm1,cy1,co1,cn1,v0,v1,v2,v3⟩:=RdTr.slices Q.rows.rd;obtain⟨vm0,vy0,vo0,vs0,mem1,ys1,os1,seq1,snaps1⟩:=X;simp only at v0 v1 v2 v3;subst v0;subst v1;subst v2;subst v3;obtain⟨eT,eN⟩:=zbC HE.out hk HP.out (.inr HN.out);have eL:l=d.extract 0 n:=by
     rw[eN];exact ba_eq (by rw[HJ.out,(zdV HR.out HP.out hk).1,ziG])
    have END:Hid (zgE w T (d.extract 0 n) (.returned (.agg #[.slice am1 mn1 cm1,.slice ay1 yn1 cy1,.slice ao1 on1 co1,.int .i64 seq1,.slice an1 nn1 cn1,.string l,.int .i64 0])) (put7 w2 b2 (.slice am1 mn1 cm1) (.slice ay1 yn1 cy1) (.slice ao1 on1 co1) (.int .i64 seq1) (.slice an1 nn1 cn1) (.string l) (.int .i64 0))):=Q.fin eT.symm eL HB2.out (by omega);obtain⟨y0,y1,y2,y3,y4,y5,y6,-⟩:=Q.kb.facts;simp only at y0 y1 y2 y3 y4 y5 y6;obtain⟨m0,m1,m2,m3,m4,m5,m6,n0,n1,n2,n3,n4,n5,n6⟩:=Q.res.facts;simp only at m0 m1 m2 m3 m4 m5 m6;have hzF:=Row7.put Q.res (.slice am1 mn1 cm1) (.slice ay1 yn1 cy1) (.slice ao1 on1 co1) (.int .i64 seq1) (.slice an1 nn1 cn1) (.string l) (.int .i64 0);obtain⟨f0,f1,f2,f3,f4,f5,f6⟩:=hzF.cells;unfold put7 at f0 f1 f2 f3 f4 f5 f6 END;clear Q hzF eT eN eL HP HJ HE HR HD HB HB2 HG HTB;go_wp2;exact bodyPost_ret (v:=.agg #[.slice am1 mn1 cm1,.slice ay1 yn1 cy1,.slice ao1 on1 co1,.int .i64 seq1,.slice an1 nn1 cn1,.string l,.int .i64 0]) (by simp[results,Tryz.results40,go_sem,f0,f1,f2,f3,f4,f5,f6]) rfl END.out
   | true =>
    obtain⟨xs,hxs⟩:∃ xs,xs=(rdB tk).1:=⟨_,rfl⟩;have hby:=zoz hrb;rw[← hxs] at hby;have HF:Hid (∀ x∈xs,FitsW x):=hby.2.2.2;have HBS:Hid (batS xs=tk):=hby.1;have HAK:Hid (repK ts (k+1)=match addK X.tre l.size xs with | some T'=>some (T',l.size+(recS tk).size) | none=>none):=by
     unfold Hid addK;rw[HS1.out,HBS.out,hxs];by_cases hc:l.size+(recS tk).size≤20000
     ·rw[if_pos ⟨hrb,hc⟩,if_pos ⟨HZ.out,hc⟩]
     ·rw[if_neg (fun c=>hc c.2),if_neg (fun c=>hc c.2)]
    rw[← hxs] at ob ⊢;clear HS1 hrb hxs hby HZ;have hl2:l.size≤20000:=(zeM HP.out).2;have hCP:=zdA Q.tree Q.rows.rows;go_wp2_with fail
    refine(zpz (b2+1) X l 0 _ xs te pe _ Q.kb Q.rows.rd Q.tree hCP ob.rd HF.out (HG.out.on Q.bw) (HTB.out.on Q.bw) hl2).mono ?_;rintro e w3 (⟨T',ha,Y,rfl,hYt,hkY,oY,ht⟩ | ⟨ha,rfl,b⟩)
    ·have HN:Hid (repK ts (k+1)=some (T',l.size+(recS tk).size)):=by unfold Hid;rw[HAK.out,ha]
     have hTP:TreeP Y.tre:=by rw[hYt];exact ze9 HN.out
     have Q2:=Q.add hkY oY hTP ht (by omega) (by have:=HB2.out;omega);have HL2:Hid ((l++recS (batS xs)).data.toList=joinR ts (k+1)):=by unfold Hid;rw[HBS.out,HJ1.out,← HJ.out,ByteArray.data_append,Array.toList_append]
     have HN2:Hid (repK ts (k+1)=some (Y.tre,(l++recS (batS xs)).size)):=by unfold Hid;rw[HN.out,hYt,HBS.out,ByteArray.size_append]
     clear Q hkY oY hTP ht ha HN HAK HBS HF HJ1 hYt hl2 hCP ob;go_wp2;go_roundw
     case rel=>exact⟨k+1,_,_,by omega,by go_num,HN2,HL2,Q2⟩
     case measure=>simp[intOf];omega
    ·have HN:Hid (repK ts (k+1)=none):=by unfold Hid;rw[HAK.out,ha]
     replace Q:=Q.on b;clear b ha HAK HBS HF HJ1 hCP hl2 ob;obtain⟨am1,ay1,ao1,an1,mn1,yn1,on1,nn1,cm1,cy1,co1,cn1,v0,v1,v2,v3⟩:=RdTr.slices Q.rows.rd;obtain⟨vm0,vy0,vo0,vs0,mem1,ys1,os1,seq1,snaps1⟩:=X;simp only at v0 v1 v2 v3;subst v0;subst v1;subst v2;subst v3;obtain⟨eT,eN⟩:=zbC HE.out hk HP.out (.inr HN.out);have eL:l=d.extract 0 n:=by
      rw[eN];exact ba_eq (by rw[HJ.out,(zdV HR.out HP.out hk).1,ziG])
     have END:Hid (zgE w T (d.extract 0 n) (.returned (.agg #[.slice am1 mn1 cm1,.slice ay1 yn1 cy1,.slice ao1 on1 co1,.int .i64 seq1,.slice an1 nn1 cn1,.string l,.int .i64 0])) (put7 w3 b2 (.slice am1 mn1 cm1) (.slice ay1 yn1 cy1) (.slice ao1 on1 co1) (.int .i64 seq1) (.slice an1 nn1 cn1) (.string l) (.int .i64 0))):=Q.fin eT.symm eL HB2.out (by omega);obtain⟨y0,y1,y2,y3,y4,y5,y6,-⟩:=Q.kb.facts;simp only at y0 y1 y2 y3 y4 y5 y6;obtain⟨m0,m1,m2,m3,m4,m5,m6,n0,n1,n2,n3,n4,n5,n6⟩:=Q.res.facts;simp only at m0 m1 m2 m3 m4 m5 m6;have hzF:=Row7.put Q.res (.slice am1 mn1 cm1) (.slice ay1 yn1 cy1) (.slice ao1 on1 co1) (.int .i64 seq1) (.slice an1 nn1 cn1) (.string l) (.int .i64 0);obtain⟨f0,f1,f2,f3,f4,f5,f6⟩:=hzF.cells;unfold put7 at f0 f1 f2 f3 f4 f5 f6 END;clear Q hzF eT eN eL HP HJ HE HR HD HB HB2 HG HTB;go_wp2;exact bodyPost_ret (v:=.agg #[.slice am1 mn1 cm1,.slice ay1 yn1 cy1,.slice ao1 on1 co1,.int .i64 seq1,.slice an1 nn1 cn1,.string l,.int .i64 0]) (by simp[results,Tryz.results40,go_sem,f0,f1,f2,f3,f4,f5,f6]) rfl END.out
  ·have hke:k=ts.length:=by omega
   obtain⟨am1,ay1,ao1,an1,mn1,yn1,on1,nn1,cm1,cy1,co1,cn1,v0,v1,v2,v3⟩:=RdTr.slices Q.rows.rd;obtain⟨vm0,vy0,vo0,vs0,mem1,ys1,os1,seq1,snaps1⟩:=X;simp only at v0 v1 v2 v3;subst v0;subst v1;subst v2;subst v3;obtain⟨eT,eN⟩:=zbC HE.out hk HP.out (.inl hke);have eL:l=d.extract 0 n:=by
    rw[eN];exact ba_eq (by rw[HJ.out,(zdV HR.out HP.out hk).1,ziG])
   have END:Hid (zgE w T (d.extract 0 n) (.returned (.agg #[.slice am1 mn1 cm1,.slice ay1 yn1 cy1,.slice ao1 on1 co1,.int .i64 seq1,.slice an1 nn1 cn1,.string l,.int .i64 0])) (put7 wr b2 (.slice am1 mn1 cm1) (.slice ay1 yn1 cy1) (.slice ao1 on1 co1) (.int .i64 seq1) (.slice an1 nn1 cn1) (.string l) (.int .i64 0))):=Q.fin eT.symm eL HB2.out (by omega);obtain⟨y0,y1,y2,y3,y4,y5,y6,-⟩:=Q.kb.facts;simp only at y0 y1 y2 y3 y4 y5 y6;obtain⟨m0,m1,m2,m3,m4,m5,m6,n0,n1,n2,n3,n4,n5,n6⟩:=Q.res.facts;simp only at m0 m1 m2 m3 m4 m5 m6;have hzF:=Row7.put Q.res (.slice am1 mn1 cm1) (.slice ay1 yn1 cy1) (.slice ao1 on1 co1) (.int .i64 seq1) (.slice an1 nn1 cn1) (.string l) (.int .i64 0);obtain⟨f0,f1,f2,f3,f4,f5,f6⟩:=hzF.cells;unfold put7 at f0 f1 f2 f3 f4 f5 f6 END;clear Q hzF eT eN eL HP HJ HE HR HD HB HB2 HG HTB;go_wp2;exact bodyPost_ret (v:=.agg #[.slice am1 mn1 cm1,.slice ay1 yn1 cy1,.slice ao1 on1 co1,.int .i64 seq1,.slice an1 nn1 cn1,.string l,.int .i64 0]) (by simp[results,Tryz.results40,go_sem,f0,f1,f2,f3,f4,f5,f6]) rfl END.out
open Go.RowKit
theorem zgj(ts:List TV):cntT ts≤2*tsz ts∧(ts≠[]→0<tsz ts):=by
 induction ts with
 | nil=>exact⟨Nat.le_refl _,fun h=>absurd rfl h⟩
 | cons a r ih =>
  have e1:cntT (a::r)=(2+a.T.bits.length+a.T.blocks.length)+cntT r:=by simp[cntT]
  have e2:tsz (a::r)=(1+a.T.bits.length+a.T.blocks.length)+tsz r:=by simp[tsz]
  have:=ih.1;exact⟨by omega,fun _=>by omega⟩
theorem SmallTr.room{X:TrX}(h:SmallTr X):Room 1 X:=by
 have hs:=h.sum;obtain⟨y1,y2⟩:=zgj X.ys;obtain⟨o1,o2⟩:=zgj X.os;refine⟨by omega,?_,?_,by unfold cntTr;omega⟩
 ·by_cases hy:X.ys=[]
  ·exact .inl hy
  ·have:=y2 hy;exact .inr (by omega)
 ·by_cases hy:X.os=[]
  ·exact .inl hy
  ·have:=o2 hy;exact .inr (by omega)
theorem Touch.tre{bs:List Nat}{w w':World}{b:Nat}{X:TrX}(h:Touch bs w w')(ht:TreAt w b X)(hn:b ∉ bs):TreAt w' b X:=ht.of_block (h.block b ht.lt hn)
open Go.RowKit
theorem tmk_at{k:Nat}{ts:List TV}{n j:Nat}(hj:j<n):nthT (tmkTo k ts n) j=mkT (k+cntT (ts.take j)) (nthT ts j):=by
 rw[zak (by rw[zcm];exact hj)];simp[tmkTo]
theorem iheld_at(v:Value)(n:Nat)(x:Int)(k:Nat)(w:World)(hx:x=(k:Int))(hk:k+n≤1073741824)(hr:RdI w v (zae k n)) :
 Calls Tryz.prog 85 #[v,.int .i64 x] w fun e w'=>e=.returned (.int .i64 ((k+n:Nat):Int))∧w'=w:=by rw[hx];exact zkO v n k w hk hr
theorem sheld_at(v:Value)(n:Nat)(x:Int)(k:Nat)(w:World)(hx:x=(k:Int))(hk0:0<k)(hk:k+n≤4194304)(hr:RdS w v (zaJ k n)) :
 Calls Tryz.prog 122 #[v,.int .i64 x] w fun e w'=>e=.returned (.int .i64 ((k+n:Nat):Int))∧Below w.heap.size w w':=by rw[hx];exact zpN v n k w hk0 hk hr
theorem zfS(v:Value)(ts:List TV)(k:Nat)(w:World)(hk0:0<k)(hkn:ts=[]∨k+cntT ts≤4194304)(hr:RdTs w v (tmkTo k ts ts.length)) :
 Calls Tryz.prog 84 #[v,.int .i64 (k:Int)] w fun e w'=>e=.returned (.int .i64 ((k+cntT ts:Nat):Int))∧Below w.heap.size w w':=by
 obtain⟨a,cap,hv,hl,hm,_⟩:=id hr;rw[zcm] at hv hl;unfold maxLen at hm;subst hv;obtain⟨nn,hnn⟩:∃ nn,nn=ts.length:=⟨_,rfl⟩;rw[← hnn] at hl hr ⊢;have HNN:Hid (nn=ts.length):=hnn;have HKB:Hid (ts=[]∨k+cntT ts≤4194304):=hkn;clear hnn hkn;go_enter Tryz.func84,Tryz.ntmps84
 go_wp2;go_loopw [1,5] (fun kk i wr=>∃ (j z:Nat),j≤nn∧i=.int .i64 j∧kk=.int .i64 (z:Int)∧Hid (z=k+cntT (ts.take j))∧Below w.heap.size w wr) (fun _ i _=>nn-(intOf i).toNat)
 case atStart=>exact⟨0,k,Nat.zero_le _,rfl,rfl,by unfold Hid;simp[cntT],Below.refl _ _⟩
 case round =>
  obtain⟨j,z,hj,rfl,rfl,HZ,hb⟩:=hrel;by_cases hlt:j<nn
  ·have hjl:j<ts.length:=by rw[← HNN.out];exact hlt
   have hjc:j<cap:=by omega
   have hz0:0<z:=by have:=HZ.out;omega
   have hkn:k+cntT ts≤4194304:=by
    rcases HKB.out with e | e
    ·rw[e] at hjl;simp at hjl
    ·exact e
   have hct:=zjM hjl;have hcl:=zq9 (ts:=ts) (k:=j+1);have HZN:Hid (z+2+(nthT ts j).T.bits.length+(nthT ts j).T.blocks.length=k+cntT (ts.take (j+1))):=by unfold Hid;have:=HZ.out;omega
   have hzn:z+2+(nthT ts j).T.bits.length+(nthT ts j).T.blocks.length≤4194304:=by have:=HZ.out;omega
   obtain⟨b,off,rfl,hc,hri,hrs⟩:=(hr.below hb).at j (by rw[zcm];exact hlt);rw[tmk_at hlt,← HZ.out] at hc hri hrs;change RdI wr (nthT ts j).vb (zae (z+2) (nthT ts j).T.bits.length) at hri;change RdS wr (nthT ts j).vk (zaJ (z+2+(nthT ts j).T.bits.length) (nthT ts j).T.blocks.length) at hrs;have hl2:=hc.lt;obtain⟨c0,c1,c2,c3⟩:=hc;change _=some (Value.string (mk z)) at c0;change _=some (Value.string (mk (z+1))) at c1;change _=some (nthT ts j).vb at c2;change _=some (nthT ts j).vk at c3;generalize (nthT ts j).vb=vb at c2 hri;generalize (nthT ts j).vk=vk at c3 hrs;generalize (nthT ts j).T.bits.length=bn at HZN hzn hri hrs;generalize (nthT ts j).T.blocks.length=kn at HZN hzn hrs;clear hct hcl hkn hjl;go_wp2_with fail
   refine wp_region_noPanic ?_;refine wp_region_held_drew (S:=fun w'=>w'.cell? ⟨b,off+j*4,none⟩=some (.string (mk z))) (by kernel_rfl) c0 (fun hH=>?_);refine kA 0 12 hH ?_;refine kA 1 13 hH ?_;refine kA 2 14 hH ?_;refine kA 3 15 hH ?_;refine kA 4 16 hH ?_;refine kA 5 17 hH ?_;refine rdy 6 (fun K hK=>?_);go_simp;refine(zaA _ z _ (by omega) (by omega) (by omega)).mono ?_;rintro e w1 ⟨rfl,hb1⟩;obtain⟨q1,_⟩:=bcell hb1;refine hK.out _ _ ((q1 _ _ hl2).trans c0) (fun hA=>?_);clear hK K;try simp only[Act.put,sA,sZ,sS]
   refine kA 7 19 hA ?_;refine dne ?_;have d1:w1.cell? ⟨b,off+j*4+1,none⟩=some (.string (mk (z+1))):=(q1 _ _ hl2).trans c1;have d2:w1.cell? ⟨b,off+j*4+2,none⟩=some vb:=(q1 _ _ hl2).trans c2;have d3:w1.cell? ⟨b,off+j*4+3,none⟩=some vk:=(q1 _ _ hl2).trans c3;have hri1:=(hri.below ((Below.refl _ wr).drew)).below hb1;have hrs1:=(hrs.below ((Below.refl _ wr).drew)).below hb1;have b1:=hb.drew.trans (hb1.mono hb.size);have hl3:=World.block_lt_of_cell? w1 _ d1;clear hH hA hb hb1 q1 c0 c1 c2 c3 hri hrs;go_wp2_with fail
   refine wp_region_noPanic ?_;refine wp_region_held_drew (S:=fun w'=>w'.cell? ⟨b,off+j*4+1,none⟩=some (.string (mk (z+1)))) (by kernel_rfl) d1 (fun hH=>?_);refine kA 0 22 hH ?_;refine kA 1 23 hH ?_;refine kA 2 24 hH ?_;refine kA 3 25 hH ?_;refine kA 4 26 hH ?_;refine kA 5 27 hH ?_;refine rdy 6 (fun K hK=>?_);go_simp;refine(zaA _ (z+1) _ (by omega) (by omega) (by omega)).mono ?_;rintro e w2 ⟨rfl,hb2⟩;obtain⟨q2,_⟩:=bcell hb2;refine hK.out _ _ ((q2 _ _ hl3).trans d1) (fun hA=>?_);clear hK K;try simp only[Act.put,sA,sZ,sS]
   refine kA 7 29 hA ?_;refine dne ?_;have e2:w2.cell? ⟨b,off+j*4+2,none⟩=some vb:=(q2 _ _ hl3).trans d2;have e3:w2.cell? ⟨b,off+j*4+3,none⟩=some vk:=(q2 _ _ hl3).trans d3;have hri2:=(hri1.below ((Below.refl _ w1).drew)).below hb2;have hrs2:=(hrs1.below ((Below.refl _ w1).drew)).below hb2;have b2:=b1.drew.trans (hb2.mono b1.size);clear hH hA b1 hb2 q2 d1 d2 d3 hri1 hrs1;go_wp2_with fail
   refine(iheld_at vb bn _ (z+2) _ (by omega) (by omega) hri2).mono ?_;rintro e w3 ⟨rfl,rfl⟩;obtain⟨z2,hz2⟩:∃ z2,z2=z+2+bn:=⟨_,rfl⟩;rw[← hz2];rw[← hz2] at hrs2 HZN hzn;have hz2p:0<z2:=by omega
   have hz2n:¬ ((z2:Int)<0):=by omega
   clear hz2 hri2 e2;go_wp2_with fail
   refine(sheld_at vk kn _ z2 _ rfl (by omega) (by omega) hrs2).mono ?_;rintro e w4 ⟨rfl,hb4⟩;obtain⟨z3,hz3⟩:∃ z3,z3=z2+kn:=⟨_,rfl⟩;rw[← hz3];rw[← hz3] at HZN;have hz3n:¬ ((z3:Int)<0):=by omega
   have b4:=b2.trans (hb4.mono b2.size);clear hz3 hrs2 e3 hb4 b2;go_wp2;go_roundw
   case rel=>exact⟨j+1,z3,by omega,by go_num,rfl,HZN,b4⟩
   case measure=>simp[intOf];omega
  ·have hje:j=nn:=by omega
   have HZE:Hid (z=k+cntT ts):=by unfold Hid;rw[HZ.out,hje,HNN.out,List.take_length]
   clear hje;go_wp2;go_ret;exact⟨by rw[HZE.out];rfl,hb⟩
theorem zjK(Y:TrX)(k:Nat)(w:World)(hk0:0<k)(hr:Room k Y)(h:RdTr w (mkTr k Y)) :
 Calls Tryz.prog 43 #[.agg #[Y.vm,Y.vy,Y.vo,.int .i64 Y.seq,Y.vs],.int .i64 (k:Int)] w fun e w'=>e=.returned (.int .i64 ((k+cntTr Y:Nat):Int))∧Below w.heap.size w w':=by
 obtain⟨r1,r2,r3,r4⟩:=hr;obtain⟨k1,hk1⟩:∃ k1,k1=k+4*Y.mem.length:=⟨_,rfl⟩;obtain⟨k2,hk2⟩:∃ k2,k2=k1+cntT Y.ys:=⟨_,rfl⟩;obtain⟨k3,hk3⟩:∃ k3,k3=k2+cntT Y.os:=⟨_,rfl⟩;obtain⟨k4,hk4⟩:∃ k4,k4=k3+Y.snaps.length:=⟨_,rfl⟩;have HEQ:Hid (k4=k+cntTr Y):=by unfold Hid cntTr;omega
 have HM:Hid (∀ W,Below w.heap.size w W→Calls Tryz.prog 83 #[Y.vm,.int .i64 (k:Int)] W fun e w'=>e=.returned (.int .i64 (k1:Int))∧Below W.heap.size W w'):=fun W hb=>by
  have:=zos Y.vm Y.mem.length k W hk0 r1 (h.mem.below hb);rw[← hk1] at this;exact this
 have HY:Hid (∀ W,Below w.heap.size w W→Calls Tryz.prog 84 #[Y.vy,.int .i64 (k1:Int)] W fun e w'=>e=.returned (.int .i64 (k2:Int))∧Below W.heap.size W w'):=fun W hb=>by
  have:=zfS Y.vy Y.ys k1 W (by omega) (by rw[hk1];exact r2) (by rw[hk1];exact h.young.below hb);rw[← hk2] at this;exact this
 have HO:Hid (∀ W,Below w.heap.size w W→Calls Tryz.prog 84 #[Y.vo,.int .i64 (k2:Int)] W fun e w'=>e=.returned (.int .i64 (k3:Int))∧Below W.heap.size W w'):=fun W hb=>by
  have:=zfS Y.vo Y.os k2 W (by omega) (by rw[hk2,hk1];exact r3) (by rw[hk2,hk1];exact h.old.below hb);rw[← hk3] at this;exact this
 have HS:Hid (∀ W,Below w.heap.size w W→Calls Tryz.prog 85 #[Y.vs,.int .i64 (k3:Int)] W fun e w'=>e=.returned (.int .i64 (k4:Int))∧w'=W):=fun W hb=>by
  have:=zkO Y.vs Y.snaps.length k3 W (by rw[← hk4];have:=HEQ.out;omega) (by rw[hk3,hk2,hk1];exact h.snaps.below hb);rw[← hk4] at this;exact this
 have n1:¬ ((k1:Int)<0):=by omega
 have n2:¬ ((k2:Int)<0):=by omega
 have n3:¬ ((k3:Int)<0):=by omega
 have n4:¬ ((k4:Int)<0):=by omega
 clear hk1 hk2 hk3 hk4 r1 r2 r3 r4 h;have t0:=zaI w Y 34;have b0:=za w (.cells #[Y.vm,Y.vy,Y.vo,.int .i64 Y.seq,Y.vs] 34);obtain⟨q0,q1,q2,q3,q4⟩:=id t0;go_enter Tryz.func43,Tryz.ntmps43
 go_wp2_with fail
 refine(HM.out _ b0).mono ?_;rintro e w1 ⟨rfl,hb1⟩;have t1:=t0.below hb1;have b1:=b0.trans (hb1.mono b0.size);clear t0 b0 hb1 q0 q1 q2 q3 q4 HM;obtain⟨q0,q1,q2,q3,q4⟩:=id t1;go_wp2_with fail
 refine(HY.out _ b1).mono ?_;rintro e w2 ⟨rfl,hb2⟩;have t2:=t1.below hb2;have b2:=b1.trans (hb2.mono b1.size);clear t1 b1 hb2 q0 q1 q2 q3 q4 HY;obtain⟨q0,q1,q2,q3,q4⟩:=id t2;go_wp2_with fail
 refine(HO.out _ b2).mono ?_;rintro e w3 ⟨rfl,hb3⟩;have t3:=t2.below hb3;have b3:=b2.trans (hb3.mono b2.size);clear t2 b2 hb3 q0 q1 q2 q3 q4 HO;obtain⟨q0,q1,q2,q3,q4⟩:=id t3;go_wp2_with fail
 refine(HS.out _ b3).mono ?_;rintro e w4 ⟨rfl,rfl⟩;clear t3 q0 q1 q2 q3 q4 HS;go_wp2;go_ret;exact⟨by rw[HEQ.out];rfl,b3⟩
open Go.RowKit
theorem zqa:∀ {ts:List TV},(∀ t∈ts,zA t.T=true)→tsz ts≤1041*ts.length
 | [],_=>Nat.zero_le _
 | t::r,h=>by
  have h1:=zdo (h t List.mem_cons_self);have h2:=zqa (ts:=r) (fun x hx=>h x (List.mem_cons_of_mem _ hx));show (1+t.T.bits.length+t.T.blocks.length)+tsz r≤1041*(r.length+1);omega
theorem zoC{X:TrX}(h:TreeP X.tre):Room 1 X:=by
 have hl:X.mem.length≤300:=zZ h.mem;have h1:X.ys.length≤6:=by have:=h.young;rw[show X.tre.young=X.ys.map (·.T) from rfl,List.length_map] at this;exact this
 have h2:X.os.length≤1:=by have:=h.old;rw[show X.tre.old=X.os.map (·.T) from rfl,List.length_map] at this;exact this
 have h3:X.snaps.length≤10:=h.few;have a:=zqa (zeq h);have b:=zqa (zg3 h);obtain⟨y1,y2⟩:=zgj X.ys;obtain⟨o1,o2⟩:=zgj X.os;refine⟨by omega,?_,?_,by unfold cntTr;omega⟩
 ·by_cases hy:X.ys=[]
  ·exact .inl hy
  ·have:=y2 hy;exact .inr (by omega)
 ·by_cases hy:X.os=[]
  ·exact .inl hy
  ·have:=o2 hy;exact .inr (by omega)
theorem zg1(l:ByteArray)(s:Int)(Y Z:TrX)(w:World)(hy:RdTr w Y)(hz:RdTr w Z)(h:Y.tre=Z.tre) :
 Calls Tryz.prog 13 #[.agg #[.string l,.int .i64 s,Y.vm,Y.vy,Y.vo,.int .i64 Y.seq,Y.vs],.agg #[.string l,.int .i64 s,Z.vm,Z.vy,Z.vo,.int .i64 Z.seq,Z.vs]] w fun e w'=>e=.returned (.bool true)∧Below w.heap.size w w':=by
 obtain⟨am1,ay1,ao1,an1,mn1,yn1,on1,nn1,cm1,cy1,co1,cn1,v0,v1,v2,v3⟩:=RdTr.slices hy;obtain⟨vm0,vy0,vo0,vs0,mem1,ys1,os1,seq1,snaps1⟩:=Y;simp only at v0 v1 v2 v3;subst v0;subst v1;subst v2;subst v3;obtain⟨am2,ay2,ao2,an2,mn2,yn2,on2,nn2,cm2,cy2,co2,cn2,v0,v1,v2,v3⟩:=RdTr.slices hz;obtain⟨vm0,vy0,vo0,vs0,mem2,ys2,os2,seq2,snaps2⟩:=Z;simp only at v0 v1 v2 v3;subst v0;subst v1;subst v2;subst v3;obtain⟨V0,hV0⟩:∃ V,V=w.alloc (.cells #[.string l,.int .i64 s,.slice am1 mn1 cm1,.slice ay1 yn1 cy1,.slice ao1 on1 co1,.int .i64 seq1,.slice an1 nn1 cn1] 36):=⟨_,rfl⟩;have s0:V0.heap.size=w.heap.size+1:=by rw[hV0];simp
 obtain⟨W0,hW0⟩:∃ V,V=V0.alloc (.cells #[.string l,.int .i64 s,.slice am2 mn2 cm2,.slice ay2 yn2 cy2,.slice ao2 on2 co2,.int .i64 seq2,.slice an2 nn2 cn2] 36):=⟨_,rfl⟩;have x0:Row7 V0 w.heap.size 36 (.string l) (.int .i64 s) (.slice am1 mn1 cm1) (.slice ay1 yn1 cy1) (.slice ao1 on1 co1) (.int .i64 seq1) (.slice an1 nn1 cn1):=by rw[hV0];exact zaz w _ _ _ _ _ _ _ _
 have r1:Row7 W0 (w.heap.size+1) 36 (.string l) (.int .i64 s) (.slice am2 mn2 cm2) (.slice ay2 yn2 cy2) (.slice ao2 on2 co2) (.int .i64 seq2) (.slice an2 nn2 cn2):=by rw[hW0,← s0];exact zaz V0 _ _ _ _ _ _ _ _
 have bv:Below V0.heap.size V0 W0:=by rw[hW0];exact za V0 _
 have x1:=x0.on bv;have bw:Below w.heap.size w W0:=by
  have:Below w.heap.size w V0:=by rw[hV0];exact za w _
  exact this.trans (bv.mono this.size)
 have HW:Hid ((w.alloc (.cells #[.string l,.int .i64 s,.slice am1 mn1 cm1,.slice ay1 yn1 cy1,.slice ao1 on1 co1,.int .i64 seq1,.slice an1 nn1 cn1] 36)).alloc (.cells #[.string l,.int .i64 s,.slice am2 mn2 cm2,.slice ay2 yn2 cy2,.slice ao2 on2 co2,.int .i64 seq2,.slice an2 nn2 cn2] 36)=W0):=by unfold Hid;rw[hW0,hV0]
 have hy0:=hy.below bw;have hz0:=hz.below bw;obtain⟨f0,f1,f2,f3,f4,f5,f6⟩:=x1.cells;obtain⟨g0,g1,g2,g3,g4,g5,g6⟩:=r1.cells;rw[← HW.out] at f0 f1 f2 f3 f4 f5 f6 g0 g1 g2 g3 g4 g5 g6;have e1:(!l.toList==l.toList)=false:=by simp
 have e2:(s != s)=false:=by simp
 clear x0 bv hV0 hW0 s0 hy hz x1 r1;go_enter Tryz.func13,Tryz.ntmps13
 go_wp2_with fail
 rw[HW.out];clear HW f0 f1 f2 f3 f4 f5 f6 g0 g1 g2 g3 g4 g5 g6 e1 e2;refine(zk1 ⟨.slice am1 mn1 cm1,.slice ay1 yn1 cy1,.slice ao1 on1 co1,.slice an1 nn1 cn1,mem1,ys1,os1,seq1,snaps1⟩ ⟨.slice am2 mn2 cm2,.slice ay2 yn2 cy2,.slice ao2 on2 co2,.slice an2 nn2 cn2,mem2,ys2,os2,seq2,snaps2⟩ _ hy0 hz0 h).mono ?_;rintro e w1 ⟨rfl,b⟩;have bz:=bw.trans (b.mono bw.size);go_wp2;go_ret;exact⟨rfl,bz⟩
theorem zkM(l:ByteArray)(s:Int)(Y:TrX)(B k:Nat)(w:World)(ho:OwnTree w B Y)(hk0:0<k)(hr:Room k Y) :
 Calls Tryz.prog 16 #[.agg #[.string l,.int .i64 s,Y.vm,Y.vy,Y.vo,.int .i64 Y.seq,Y.vs],.int .i64 (k:Int)] w fun e w'=>e=.returned (.int .i64 ((k+cntTr Y:Nat):Int))∧OwnTree w' B (mkTr k Y)∧Touch (trB Y) w w':=by
 have hyr:=ho.rd;obtain⟨am1,ay1,ao1,an1,mn1,yn1,on1,nn1,cm1,cy1,co1,cn1,v0,v1,v2,v3⟩:=RdTr.slices hyr;have HCALL:Hid (∀ W,Below w.heap.size w W→Calls Tryz.prog 42 #[.agg #[Y.vm,Y.vy,Y.vo,.int .i64 Y.seq,Y.vs],.int .i64 (k:Int)] W fun e w'=>e=.returned (.int .i64 ((k+cntTr Y:Nat):Int))∧OwnTree w' B (mkTr k Y)∧Touch (trB Y) W w'):=fun W hb=>zj8 Y B k W (ho.below hb) hk0 hr
 rw[v0,v1,v2,v3] at HCALL ⊢;generalize Y.seq=seq1 at HCALL ⊢;have hq0:¬ ((k+cntTr Y:Nat):Int)<0:=by omega
 generalize hcn:k+cntTr Y=kk at HCALL hq0 ⊢;have hbd:kk≤1000000000000:=by rw[← hcn];have:=hr.all;omega
 clear hcn v0 v1 v2 v3 hyr;have x0:=zaz w 36 (.string l) (.int .i64 s) (.slice am1 mn1 cm1) (.slice ay1 yn1 cy1) (.slice ao1 on1 co1) (.int .i64 seq1) (.slice an1 nn1 cn1);have bw:=za w (.cells #[.string l,.int .i64 s,.slice am1 mn1 cm1,.slice ay1 yn1 cy1,.slice ao1 on1 co1,.int .i64 seq1,.slice an1 nn1 cn1] 36);obtain⟨f0,f1,f2,f3,f4,f5,f6⟩:=x0.cells;clear x0;go_enter Tryz.func16,Tryz.ntmps16
 go_wp2_with fail
 clear f0 f1 f2 f3 f4 f5 f6;refine(HCALL.out _ bw).mono ?_;rintro e w1 ⟨rfl,om,ht⟩;have END:Hid (OwnTree w1 B (mkTr k Y)∧Touch (trB Y) w w1):=⟨om,(Touch.of_below bw).trans ht⟩;clear om ht bw HCALL;go_wp2;go_ret;exact⟨rfl,END.out⟩
theorem zfQ(l:ByteArray)(s:Int)(Y:TrX)(k:Nat)(w:World)(hk0:0<k)(hr:Room k Y)(hm:RdTr w (mkTr k Y)) :
 Calls Tryz.prog 17 #[.agg #[.string l,.int .i64 s,Y.vm,Y.vy,Y.vo,.int .i64 Y.seq,Y.vs],.int .i64 (k:Int)] w fun e w'=>e=.returned (.int .i64 ((k+cntTr Y:Nat):Int))∧Below w.heap.size w w':=by
 have hyr:RdTr w ⟨Y.vm,Y.vy,Y.vo,Y.vs,(mkTr k Y).mem,(mkTr k Y).ys,(mkTr k Y).os,Y.seq,(mkTr k Y).snaps⟩:=hm;obtain⟨am1,ay1,ao1,an1,mn1,yn1,on1,nn1,cm1,cy1,co1,cn1,v0,v1,v2,v3⟩:=RdTr.slices hyr;simp only at v0 v1 v2 v3;have HCALL:Hid (∀ W,Below w.heap.size w W→Calls Tryz.prog 43 #[.agg #[Y.vm,Y.vy,Y.vo,.int .i64 Y.seq,Y.vs],.int .i64 (k:Int)] W fun e w'=>e=.returned (.int .i64 ((k+cntTr Y:Nat):Int))∧Below W.heap.size W w'):=fun W hb=>zjK Y k W hk0 hr (hm.below hb)
 rw[v0,v1,v2,v3] at HCALL ⊢;generalize Y.seq=seq1 at HCALL ⊢;have hq0:¬ ((k+cntTr Y:Nat):Int)<0:=by omega
 generalize hcn:k+cntTr Y=kk at HCALL hq0 ⊢;have hbd:kk≤1000000000000:=by rw[← hcn];have:=hr.all;omega
 clear hcn v0 v1 v2 v3 hyr;have x0:=zaz w 36 (.string l) (.int .i64 s) (.slice am1 mn1 cm1) (.slice ay1 yn1 cy1) (.slice ao1 on1 co1) (.int .i64 seq1) (.slice an1 nn1 cn1);have bw:=za w (.cells #[.string l,.int .i64 s,.slice am1 mn1 cm1,.slice ay1 yn1 cy1,.slice ao1 on1 co1,.int .i64 seq1,.slice an1 nn1 cn1] 36);obtain⟨f0,f1,f2,f3,f4,f5,f6⟩:=x0.cells;clear x0;go_enter Tryz.func17,Tryz.ntmps17
 go_wp2_with fail
 clear f0 f1 f2 f3 f4 f5 f6;refine(HCALL.out _ bw).mono ?_;rintro e w1 ⟨rfl,hb⟩;have bz:=bw.trans (hb.mono bw.size);clear bw hb HCALL;go_wp2;go_ret;exact⟨rfl,bz⟩
end Go.Proofs.YtannfbpohhnnkaaGreatDoor
