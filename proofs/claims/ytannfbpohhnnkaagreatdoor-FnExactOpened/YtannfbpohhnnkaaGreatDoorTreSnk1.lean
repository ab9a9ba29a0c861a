import Derived.Test.YtannfbpohhnnkaaGreatDoorG26
namespace Go.Proofs.YtannfbpohhnnkaaGreatDoor
set_option maxHeartbeats 16000000
set_option maxRecDepth 100000
open Go.RowKit
theorem zbd{w:World}{ops:Array Oper}{o:Oper}{a:Act}{K:Act→World→Prop}{Q:Exit→Act→World→Prop}{E:Prop}(hgd:o.guard=none)(d:Nat)(hd:o.dst=some d)(x:Value)(e:TypeId)
 (hrun:(execOp a.eval o).run Tryz.prog w=.ok (.value (.slice (some ⟨w.heap.size,0,none⟩) 1 1)) (w.alloc (.cells #[x] e)))
 (h:∀ b W',Below w.heap.size w W'→W'.ownsRow w.heap.size e 1 (.slice (some ⟨b,0,none⟩) 1 1) 1 [x]→w.heap.size≤b→b<W'.heap.size→K (a.put (some d) (.slice (some ⟨b,0,none⟩) 1 1)) W') :
 if Region.wanted o (yielded ops a.tmps)=true then Oper.wp Tryz.prog o a w K Q else E:=by
 have hw:Region.wanted o (yielded ops a.tmps)=true:=by simp[Region.wanted,hgd]
 rw[if_pos hw];have h':=h w.heap.size _ (za w (.cells #[x] e)) (World.ownsRow_lit w #[x] 1 (Nat.le_refl _) (by unfold maxLen;omega) (by simp)) (Nat.le_refl _) (by simp);rw[← hd] at h';unfold Oper.wp;rw[hrun];exact h'
theorem zcK{w:World}{ops:Array Oper}{o:Oper}{a:Act}{K:Act→World→Prop}{Q:Exit→Act→World→Prop}{E:Prop}(hgd:o.guard=none)(d:Nat)(hd:o.dst=some d)(f l:ByteArray)(vb vk:Value)
 (hrun:(execOp a.eval o).run Tryz.prog w=.ok (.value (.slice (some ⟨w.heap.size,0,none⟩) 1 1)) (w.alloc (.cells #[.string f,.string l,vb,vk] 118)))
 (h:∀ b W',Below w.heap.size w W'→(∀ bs ks,OwnT W' w.heap.size (.slice (some ⟨b,0,none⟩) 1 1) [⟨⟨f,l,bs,ks⟩,vb,vk⟩])→K (a.put (some d) (.slice (some ⟨b,0,none⟩) 1 1)) W') :
 if Region.wanted o (yielded ops a.tmps)=true then Oper.wp Tryz.prog o a w K Q else E:=by
 have hw:Region.wanted o (yielded ops a.tmps)=true:=by simp[Region.wanted,hgd]
 rw[if_pos hw];have h':=h w.heap.size _ (za w (.cells #[.string f,.string l,vb,vk] 118)) (fun bs ks=>World.ownsRow_lit w #[.string f,.string l,vb,vk] 1 (Nat.le_refl _) (by unfold maxLen;omega) (by simp));rw[← hd] at h';unfold Oper.wp;rw[hrun];exact h'
theorem zal{w:World}{ops:Array Oper}{o:Oper}{a:Act}{K:Act→World→Prop}{Q:Exit→Act→World→Prop}{E:Prop}(hgd:o.guard=none)(d:Nat)(hd:o.dst=some d)(s x:Operand)
 (ho:o.op=.call { callee:=.builtin .append,args:=#[s,x],argTypes:=#[32,32] }) (base:Nat) (v u:Value) (us ts:List TV) (hs:a.eval s=v) (hx:a.eval x=u) (hown:OwnT w base v us) (hr:RdTs w u ts) (hn:NilOk u) (hl:us.length+ts.length≤10000000) (hbase:base≤w.heap.size)
 (h:∀ v' w',OwnT w' base v' (us++ts)→w.grownBy w' v.ownBlock→K (a.put (some d) v') w') :
 if Region.wanted o (yielded ops a.tmps)=true then Oper.wp Tryz.prog o a w K Q else E:=by
 have hw:Region.wanted o (yielded ops a.tmps)=true:=by simp[Region.wanted,hgd]
 rw[if_pos hw];obtain⟨v',w',hrun,r1,r2⟩:=zdj o.type hown hr hn hl hbase;unfold Oper.wp;simp[execOp,ho,resolve,invoke,builtin,hs,hx,hrun,Result.andThen];have h':=h v' w' r1 r2;rw[← hd] at h';exact h'
theorem zK{w:World}{B t z n:Nat}{v:Value}{xs:List Value}(h:w.ownsRow B t z v n xs):∃ a c,v=.slice a n c:=by
 rcases h.2 with ⟨hv,h0⟩ | ⟨g,cap,cur,hv,_⟩
 ·exact⟨none,0,by rw[hv,h0]⟩
 ·exact⟨_,_,hv⟩
theorem zgR{w:World}{B b t s n:Nat}{vm vy vo vs v:Value}{q:Int}{xs:List Value}(h:BoxTr w b vm vy vo q vs)(ho:w.ownsRow B t s v n xs)(ht:t≠34):∀ k,v.ownBlock=some k→b=k→False:=by
 intro k hk e;subst e;rcases ho.2 with ⟨rfl,_⟩ | ⟨g,cap,cur,rfl,_,hg,_⟩
 ·simp[Value.ownBlock] at hk
 ·obtain rfl:g=b:=by simpa [Value.ownBlock] using hk
  unfold BoxTr at h;rw[h] at hg;injection hg with hg
  injection hg with _ h2
  exact ht h2.symm
theorem zev{bs:List Nat}{a w w':World}{row:Option Nat}(h:Touch bs a w)(hg:w.grownBy w' row)(hy:∀ k,row=some k→a.heap.size≤k):Touch bs a w' :=
 ⟨hg.os.trans h.os,hg.tape.trans h.tape,hg.output.trans h.output,Nat.le_trans h.size hg.size,fun k hk hn=>(hg.block k (Nat.lt_of_lt_of_le hk h.size) (fun e=>by have:=hy k e.symm;omega)).trans (h.block k hk hn)⟩
def sinkM(LS:List (List Ent))(ss:List Int)(q:Int):List Ent:=zB (zbq (zk LS) (ss++[q]))
def zcV(w:World)(b:Nat)(vm:Value)(q:Int)(vs:Value)(LS:List (List Ent))(ss:List Int)(yn:Nat)(e:Ending)(w':World):Prop :=
 ∃ ok,e=.returned (.bool ok)∧ok=(decide (yn≠0)&&decide ((zk LS).length≤300))∧(ok=false→Below w.heap.size w w') ∧
  (ok=true→∃ vy' vo' ts,BoxTr w' b vm vy' vo' q vs∧OwnT w' w.heap.size vy' []∧OwnT w' w.heap.size vo' ts∧InT w' w.heap.size ts∧ts.map (·.T)=(if (sinkM LS ss q).length=0 then [] else [zq (sinkM LS ss q)])∧Touch [b] w w'∧∃ x,vy'=.slice x 0 0)
theorem znn(b:Nat)(vm vy vo vs:Value)(ys os:List TV)(q:Int)(ss:List Int)(w:World)(hb:BoxTr w b vm vy vo q vs)(hy:RdTs w vy ys)(ho:RdTs w vo os)(hs:RdI w vs ss)(hfy:∀ t∈ys,∀ s∈t.T.blocks,s.size≤1000000000)(hfo:∀ t∈os,∀ s∈t.T.blocks,s.size≤1000000000)(hy6:ys.length≤6)(ho1:os.length≤1)(hs10:ss.length≤10)
 (hpk:(zk (tl ys ys.length++tl os os.length)).length≤300→(∀ e∈sinkM (tl ys ys.length++tl os os.length) ss q,PkE e)∧(sinkM (tl ys ys.length++tl os os.length) ss q).length≤400) :
 Calls Tryz.prog 57 #[.pointer (some ⟨b,0,none⟩)] w fun e w'=>zcV w b vm q vs (tl ys ys.length++tl os os.length) ss ys.length e w':=by
 obtain⟨i0,hi,hz0,hz1,hz2⟩:=info_parts Tryz.infoL31;obtain⟨ay,cy,hvy,hly,hmy,-⟩:=id hy;obtain⟨ao,co,hvo,hlo,hmo,-⟩:=id ho;obtain⟨LS,hLS⟩:∃ LS,LS=tl ys ys.length++tl os os.length:=⟨_,rfl⟩;rw[← hLS] at hpk ⊢;obtain⟨yn,hyn⟩:∃ yn,yn=ys.length:=⟨_,rfl⟩;obtain⟨on,hon⟩:∃ on,on=os.length:=⟨_,rfl⟩;rw[← hyn,← hon] at hLS;rw[← hyn] at hvy hly hy6 ⊢;rw[← hon] at hvo hlo ho1;unfold maxLen at hmy hmo;have HBX:Hid (∀ W,Below w.heap.size w W→BoxTr W b vm vy vo q vs):=fun W h=>(h.block b hb.lt).trans hb
 rw[hvy,hvo] at HBX;have HBL:Hid (b<w.heap.size):=hb.lt;subst hvy;subst hvo;have HYN:Hid (yn=ys.length):=hyn;have HON:Hid (on=os.length):=hon;have HLS:Hid (LS=tl ys yn++tl os on):=hLS;have HFY:Hid (∀ t∈ys,∀ s∈t.T.blocks,s.size≤1000000000):=hfy;have HFO:Hid (∀ t∈os,∀ s∈t.T.blocks,s.size≤1000000000):=hfo;have HPK0:Hid ((zk LS).length≤300→(∀ e∈sinkM LS ss q,PkE e)∧(sinkM LS ss q).length≤400):=hpk;clear hyn hon hfy hfo hpk hb hLS;obtain⟨q0,q1,q2,q3,q4,-⟩:=(HBX.out w (Below.refl _ _)).facts;by_cases hy0:yn=0
 ·have END:Hid (zcV w b vm q vs LS ss yn (.returned (.bool false)) w):=⟨false,rfl,by rw[hy0];rfl,fun _=>Below.refl _ _,fun h=>by cases h⟩;subst hy0;go_enter Tryz.func57,Tryz.ntmps57
  go_wp2;go_ret;exact END.out
 have hyi:((yn:Int)==0)=false:=by simp;exact hy0
 have bb0:=za w (.cells #[] 31);have hq0:OwnQ (w.alloc (.cells #[] 31)) w.heap.size (.slice (some ⟨w.heap.size,0,none⟩) 0 0) []:=World.ownsRow_lit w #[] 0 (Nat.le_refl _) (Nat.zero_le _) rfl;go_enter Tryz.func57,Tryz.ntmps57
 go_wp2;clear q0 q1 q2 q3 q4;go_loopw [3,4] (fun o i wr=>∃ (k:Nat) (us:List (Value×List Ent)),k≤yn∧i=.int .i64 k∧us.length=k∧OwnQ wr w.heap.size o us∧Hid (us.map (·.2)=tl ys k)∧Hid (InQ w wr us)∧Below w.heap.size w wr) (fun _ i _=>yn-(intOf i).toNat)
 case atStart=>exact⟨0,[],Nat.zero_le _,rfl,rfl,hq0,rfl,(fun p hp=>by cases hp),bb0⟩
 case round =>
  clear bb0 hq0;obtain⟨k,us,hk,rfl,hul,hoq,HUM,HIQ,bA⟩:=hrel;obtain⟨q0,q1,q2,q3,q4,-⟩:=(HBX.out _ bA).facts;by_cases hlt:k<yn
  ·skip
   have hkl:k<ys.length:=by rw[← HYN.out];exact hlt
   have hli:(k:Int)<(yn:Int):=by omega
   have hkc:k<cy:=by omega
   have hmt:nthT ys k∈ys:=by rw[zak hkl];exact List.getElem_mem hkl
   obtain⟨bt,off,rfl,hc,hri,hrs⟩:=(hy.below bA).at k hkl;have HTS:Hid (tl ys (k+1)=tl ys k++[zp (nthT ys k).T]):=zpM hkl;have HEN:Hid (∀ W,RdI W (nthT ys k).vb (nthT ys k).T.bits→RdS W (nthT ys k).vk (nthT ys k).T.blocks→Calls Tryz.prog 94 #[.agg #[.string (nthT ys k).T.first,.string (nthT ys k).T.last,(nthT ys k).vb,(nthT ys k).vk]] W fun e w'=>∃ u,e=.returned u∧OwnE w' W.heap.size u (zp (nthT ys k).T)∧Below W.heap.size W w'):=fun W h1 h2=>zdG _ _ _ W h1 h2 (HFY.out _ hmt)
   have hel:=zda (nthT ys k).T;generalize zp (nthT ys k).T=E at HTS HEN hel;generalize nthT ys k=t at hc hri hrs HEN;obtain⟨c0,c1,c2,c3⟩:=id hc;clear hmt hkl;go_wp2_with fail
   refine(HEN.out _ hri hrs).mono ?_;rintro e w2 ⟨u,rfl,ho2,hb2⟩;have b2:=bA.trans (hb2.mono bA.size);have hq2:=hoq.below hb2;have HI2:Hid (InQ w w2 us):=HIQ.out.below hb2;have ho3:=ho2.mono bA.size;obtain⟨aE,cE,hvE,-⟩:=id ho3.rd;obtain⟨nE,hnE⟩:∃ nE,nE=E.length:=⟨_,rfl⟩;rw[← hnE] at hvE hel;subst hvE;have HNE:Hid (nE=E.length):=hnE;have hsz2:=b2.size;clear hnE HEN hc hri hrs c0 c1 c2 c3 hb2 bA hoq HIQ ho2 q0 q1 q2 q3 q4;go_wp2_with (at_builtin;(refine wpList_append_own _ rfl _ _ 120 rfl w.heap.size 31 i0 (.slice none 0 0) 1 24 Tryz.underlying120 hi hz0 hz1 hz2 rfl (by decide) _ _ _ rfl (World.ownsRow.alloc hq2 _) ⟨w2.heap.size,0,none⟩ 1 1 [.slice aE nE cE] rfl rfl ?c1 ?c2 ?c3 ?c4 ?c5 ?_))
   case c1=>exact zpv _ _ _ _ rfl
   case c2=>intro z hz;simp at hz;subst hz;rfl
   case c3=>unfold maxLen;omega
   case c4=>omega
   case c5=>simp;omega
   intro v5 w5 ho5 hg5 _;have bb1:=za w2 (.cells #[.slice aE nE cE] 31);have hqA:=hq2.below bb1;rw[← hul] at ho5;have r1:=zg0 (zs:=E) ho5;have R2:Hid (InQ w w5 (us++[(.slice aE nE cE,E)])):=((HI2.out.push ho3 (by rw[← HNE.out];exact hel)).below bb1).grown hqA hg5;have b5:Below w.heap.size w w5:=(b2.alloc b2.size _).grown hg5 (by simp;omega) (fun k hk=>(World.ownsRow.lt hq2 k hk).1);have HU5:Hid ((us++[((.slice aE nE cE:Value),E)]).map (·.2)=tl ys (k+1)):=by unfold Hid;rw[List.map_append,HUM.out,HTS.out];simp
   have hul5:(us++[((.slice aE nE cE:Value),E)]).length=k+1:=by rw[List.length_append,hul];rfl
   clear hq2 HI2 ho3 ho5 hg5 bb1 hqA b2 HUM HTS;go_wp2;go_roundw
   case rel=>exact⟨k+1,_,by omega,by go_num,by omega,r1,HU5,R2,b5⟩
   case measure=>simp[intOf];omega
  ·have hke:k=yn:=by omega
   subst hke;have HUM1:Hid (us.map (·.2)=tl ys k++tl os 0):=by have:=HUM.out;unfold Hid;rw[this];simp[tl]
   go_wp2;clear q0 q1 q2 q3 q4;go_loopw [3,5] (fun o i wr=>∃ (j:Nat) (us:List (Value×List Ent)),j≤on∧i=.int .i64 j∧us.length=k+j∧OwnQ wr w.heap.size o us∧Hid (us.map (·.2)=tl ys k++tl os j)∧Hid (InQ w wr us)∧Below w.heap.size w wr) (fun _ i _=>on-(intOf i).toNat)
   case atStart=>exact⟨0,us,Nat.zero_le _,rfl,hul,hoq,HUM1,HIQ,bA⟩
   case round =>
    clear HUM1 hul hoq HUM HIQ bA;obtain⟨j,us,hj,rfl,hul,hoq,HUM,HIQ,bA⟩:=hrel;obtain⟨q0,q1,q2,q3,q4,-⟩:=(HBX.out _ bA).facts;by_cases hlt:j<on
    ·skip
     have hkl:j<os.length:=by rw[← HON.out];exact hlt
     have hli:(j:Int)<(on:Int):=by omega
     have hkc:j<co:=by omega
     have hmt:nthT os j∈os:=by rw[zak hkl];exact List.getElem_mem hkl
     obtain⟨bt,off,rfl,hc,hri,hrs⟩:=(ho.below bA).at j hkl;have HTS:Hid (tl os (j+1)=tl os j++[zp (nthT os j).T]):=zpM hkl;have HEN:Hid (∀ W,RdI W (nthT os j).vb (nthT os j).T.bits→RdS W (nthT os j).vk (nthT os j).T.blocks→Calls Tryz.prog 94 #[.agg #[.string (nthT os j).T.first,.string (nthT os j).T.last,(nthT os j).vb,(nthT os j).vk]] W fun e w'=>∃ u,e=.returned u∧OwnE w' W.heap.size u (zp (nthT os j).T)∧Below W.heap.size W w'):=fun W h1 h2=>zdG _ _ _ W h1 h2 (HFO.out _ hmt)
     have hel:=zda (nthT os j).T;generalize zp (nthT os j).T=E at HTS HEN hel;generalize nthT os j=t at hc hri hrs HEN;obtain⟨c0,c1,c2,c3⟩:=id hc;clear hmt hkl;go_wp2_with fail
     refine(HEN.out _ hri hrs).mono ?_;rintro e w2 ⟨u,rfl,ho2,hb2⟩;have b2:=bA.trans (hb2.mono bA.size);have hq2:=hoq.below hb2;have HI2:Hid (InQ w w2 us):=HIQ.out.below hb2;have ho3:=ho2.mono bA.size;obtain⟨aE,cE,hvE,-⟩:=id ho3.rd;obtain⟨nE,hnE⟩:∃ nE,nE=E.length:=⟨_,rfl⟩;rw[← hnE] at hvE hel;subst hvE;have HNE:Hid (nE=E.length):=hnE;have hsz2:=b2.size;clear hnE HEN hc hri hrs c0 c1 c2 c3 hb2 bA hoq HIQ ho2 q0 q1 q2 q3 q4;go_wp2_with (at_builtin;(refine wpList_append_own _ rfl _ _ 120 rfl w.heap.size 31 i0 (.slice none 0 0) 1 24 Tryz.underlying120 hi hz0 hz1 hz2 rfl (by decide) _ _ _ rfl (World.ownsRow.alloc hq2 _) ⟨w2.heap.size,0,none⟩ 1 1 [.slice aE nE cE] rfl rfl ?c1 ?c2 ?c3 ?c4 ?c5 ?_))
     case c1=>exact zpv _ _ _ _ rfl
     case c2=>intro z hz;simp at hz;subst hz;rfl
     case c3=>unfold maxLen;omega
     case c4=>omega
     case c5=>simp;omega
     intro v5 w5 ho5 hg5 _;have bb1:=za w2 (.cells #[.slice aE nE cE] 31);have hqA:=hq2.below bb1;rw[← hul] at ho5;have r1:=zg0 (zs:=E) ho5;have R2:Hid (InQ w w5 (us++[(.slice aE nE cE,E)])):=((HI2.out.push ho3 (by rw[← HNE.out];exact hel)).below bb1).grown hqA hg5;have b5:Below w.heap.size w w5:=(b2.alloc b2.size _).grown hg5 (by simp;omega) (fun k hk=>(World.ownsRow.lt hq2 k hk).1);have HU5:Hid ((us++[((.slice aE nE cE:Value),E)]).map (·.2)=tl ys k++tl os (j+1)):=by unfold Hid;rw[List.map_append,HUM.out,HTS.out];simp
     have hul5:(us++[((.slice aE nE cE:Value),E)]).length=(k+j)+1:=by rw[List.length_append,hul];rfl
     clear hq2 HI2 ho3 ho5 hg5 bb1 hqA b2 HUM HTS;go_wp2;go_roundw
     case rel=>exact⟨j+1,_,by omega,by go_num,by omega,r1,HU5,R2,b5⟩
     case measure=>simp[intOf];omega
    ·have hje:j=on:=by omega
     subst hje;have hpc:=hoq.pieces (HIQ.out.rd bA);have HM1:Hid (Calls _ _ _ _ _):=zkQ _ us _ hpc (by omega) (fun p hp=>(HIQ.out p hp).2);have HML:Hid (zk (us.map (·.2))=zk LS):=by unfold Hid;rw[HUM.out,HLS.out]
     have hml:(zk (us.map (·.2))).length≤10000:=by
      have:=zke us (fun p hp=>(HIQ.out p hp).2);omega
     rw[HML.out] at HM1 hml;clear hpc HML HUM HIQ hoq;go_wp2_with fail
     refine HM1.out.mono ?_;rintro e w2 ⟨u,rfl,ho2,hb2⟩;have qb:=bA.trans (hb2.mono bA.size);have qM:=ho2.mono bA.size;clear q0 q1 q2 q3 q4 HM1 ho2 hb2 bA;obtain⟨a2,c2,hv2,-⟩:=id qM.rd;obtain⟨M,hM⟩:∃ M,M=zk LS:=⟨_,rfl⟩;rw[← hM] at qM hv2 hml;obtain⟨z,hz⟩:∃ z,z=M.length:=⟨_,rfl⟩;rw[← hz] at hv2 hml;have HM:Hid (M=zk LS):=hM;have HZ:Hid (z=M.length):=hz;clear hM hz;subst hv2;by_cases hbig:300<z
     ·have END:Hid (zcV w b vm q vs LS ss k (.returned (.bool false)) w2):=⟨false,rfl,by rw[← HM.out,← HZ.out,decide_eq_false (show ¬ z≤300 by omega)];simp,fun _=>qb,fun h=>by cases h⟩;clear qM qb;go_wp2;go_ret;exact END.out
     have HOKT:Hid ((decide (k≠0)&&decide ((zk LS).length≤300))=true):=by unfold Hid;rw[← HM.out,← HZ.out];simp;omega
     have HPKA:=HPK0.out (by rw[← HM.out,← HZ.out];omega);obtain⟨SL,hSL⟩:∃ SL,SL=sinkM LS ss q:=⟨_,rfl⟩;have HSLM:Hid (zB (zbq M (ss++[q]))=SL):=by unfold Hid;rw[hSL,HM.out];rfl
     have HSL:Hid (SL=sinkM LS ss q):=hSL;rw[← hSL] at HPKA;have HPK:Hid (∀ e∈SL,PkE e):=HPKA.1;have hsl4:=HPKA.2;clear hSL HPKA;have HSB:Hid (∀ W,Below w.heap.size w W→W.cell? ⟨b,3,none⟩=some (.int .i64 q)∧W.cell? ⟨b,4,none⟩=some vs):=fun W h=>by
      obtain⟨-,-,-,h3,h4,-⟩:=(HBX.out W h).facts;exact⟨h3,h4⟩
     have hzm:M.length≤1000000:=by rw[← HZ.out];omega
     go_wp2_with fail
     refine wp_region_noPanic ?_;refine wp_region_held_drew (S:=fun W=>W.cell? ⟨b,3,none⟩=some (.int .i64 q)∧W.cell? ⟨b,4,none⟩=some vs) (by kernel_rfl) (HSB.out _ qb.drew) (fun hS=>?_);replace qM:=qM.below ((Below.refl _ w2).drew);replace qb:=qb.drew;revert qM;revert qb;revert hS;generalize w2.drew=V;intro hS qb qM;refine kG 0 60 hS ?_;refine kG 2 62 hS ?_;refine kG 3 63 hS ?_;refine kG 4 64 hS ?_;refine kG 5 65 hS ?_;refine kG 7 67 hS ?_;refine kG 8 68 hS ?_;refine kG 9 69 hS ?_;refine kG 10 70 hS ?_;refine wpAnyH_ready (rs:=[1,11]) (by kernel_rfl) (by simp) ?_;refine AllReadyH.cons rfl (fun K hK=>?_) (AllReadyH.cons rfl (fun K hK=>?_) AllReadyH.nil);rotate_left 1;refine zbd rfl 71 rfl (.int .i64 q) 2 (by go_simp;(try rfl)) ?_;intro bP V1 hm hoP lP lP2;have qP:OwnI V1 w.heap.size (.slice (some ⟨bP,0,none⟩) 1 1) [q]:=OwnI.mono hoP qb.size;replace qM:=qM.below hm;replace qb:=qb.trans (hm.mono qb.size);clear hoP hS hm;refine hK.out _ _ (HSB.out _ qb) (fun hS=>?_);clear hK K;try simp only[Act.put,sA,sZ,sS]
     refine rdy 1 (fun K hK=>?_);refine za7 rfl 61 rfl 2 1 (by go_simp;(try rfl)) ?_;intro bA V2 hm hoA lA lA2;have qA:OwnI V2 w.heap.size (.slice (some ⟨bA,0,none⟩) 0 0) []:=OwnI.mono hoA qb.size;have hAP:bA≠bP:=by omega
     replace qP:=qP.below hm;replace qM:=qM.below hm;replace qb:=qb.trans (hm.mono qb.size);clear hoA hS hm;refine hK.out _ _ (HSB.out _ qb) (fun hS=>?_);clear hK K;try simp only[Act.put,sA,sZ,sS]
     refine rdy 6 (fun K hK=>?_);refine zG rfl 66 rfl _ _ rfl w.heap.size _ _ [] ss rfl rfl qA (hs.below qb) (by simp;omega) qb.size ?_;intro vS V3 hoS hg;have qS:OwnI V3 w.heap.size vS ss:=by simpa using hoS
     replace qP:OwnI V3 w.heap.size (.slice (some ⟨bP,0,none⟩) 1 1) [q]:=zj qP hg (fun k hk e=>hAP (Option.some.inj (e.trans hk.symm)));replace qM:OwnE V3 w.heap.size (.slice a2 z c2) M:=zj qM hg (fun k hk e=>zh qM qA (by decide) k hk e);replace qb:=qb.grown hg qb.size (fun k hk=>(World.ownsRow.lt qA k hk).1);clear hoS hg hS qA;refine hK.out _ _ (HSB.out _ qb) (fun hS=>?_);clear hK K;try simp only[Act.put,sA,sZ,sS]
     refine rdy 12 (fun K hK=>?_);refine zG rfl 72 rfl _ _ rfl w.heap.size _ _ ss [q] rfl rfl qS qP.rd (by simp;omega) qb.size ?_;intro vQ V9 hoQ hg;replace qM:OwnE V9 w.heap.size (.slice a2 z c2) M:=zj qM hg (fun k hk e=>zh qM qS (by decide) k hk e);replace qb:=qb.grown hg qb.size (fun k hk=>(World.ownsRow.lt qS k hk).1);clear hg hS qS qP;refine hK.out _ _ (HSB.out _ qb) (fun hS=>?_);clear hK K;try simp only[Act.put,sA,sZ,sS]
     refine rdy 13 (fun K hK=>?_);go_simp;refine(zdt (.slice a2 z c2) vQ M (ss++[q]) _ qM.rd hoQ.rd (by omega)).mono ?_;rintro e V10 ⟨u7,rfl,ho7,hm⟩;replace ho7:=ho7.mono qb.size;replace qb:=qb.trans (hm.mono qb.size);clear hm hS hoQ qM;refine hK.out _ _ (HSB.out _ qb) (fun hS=>?_);clear hK K;try simp only[Act.put,sA,sZ,sS]
     refine kG 14 7 hS ?_;refine dne ?_;clear hS;clear lA lA2 lP lP2 hAP;revert ho7;revert qb;revert u7;revert V10;revert vQ;revert vS;revert bP;revert bA;clear V9 V3 V2 V1;refine ?sinkRest15;rotate_left 1;refine za7 rfl 61 rfl 2 1 (by go_simp;(try rfl)) ?_;intro bA V1 hm hoA lA lA2;have qA:OwnI V1 w.heap.size (.slice (some ⟨bA,0,none⟩) 0 0) []:=OwnI.mono hoA qb.size;replace qM:=qM.below hm;replace qb:=qb.trans (hm.mono qb.size);clear hoA hS hm;refine hK.out _ _ (HSB.out _ qb) (fun hS=>?_);clear hK K;try simp only[Act.put,sA,sZ,sS]
     refine wpAnyH_ready (rs:=[6,11]) (by kernel_rfl) (by simp) ?_;refine AllReadyH.cons rfl (fun K hK=>?_) (AllReadyH.cons rfl (fun K hK=>?_) AllReadyH.nil);rotate_left 1;refine zbd rfl 71 rfl (.int .i64 q) 2 (by go_simp;(try rfl)) ?_;intro bP V4 hm hoP lP lP2;have qP:OwnI V4 w.heap.size (.slice (some ⟨bP,0,none⟩) 1 1) [q]:=OwnI.mono hoP qb.size;have hAP:bA≠bP:=by omega
     replace qA:=qA.below hm;replace qM:=qM.below hm;replace qb:=qb.trans (hm.mono qb.size);clear hoP hS hm;refine hK.out _ _ (HSB.out _ qb) (fun hS=>?_);clear hK K;try simp only[Act.put,sA,sZ,sS]
     refine rdy 6 (fun K hK=>?_);refine zG rfl 66 rfl _ _ rfl w.heap.size _ _ [] ss rfl rfl qA (hs.below qb) (by simp;omega) qb.size ?_;intro vS V3 hoS hg;have qS:OwnI V3 w.heap.size vS ss:=by simpa using hoS
     replace qP:OwnI V3 w.heap.size (.slice (some ⟨bP,0,none⟩) 1 1) [q]:=zj qP hg (fun k hk e=>hAP (Option.some.inj (e.trans hk.symm)));replace qM:OwnE V3 w.heap.size (.slice a2 z c2) M:=zj qM hg (fun k hk e=>zh qM qA (by decide) k hk e);replace qb:=qb.grown hg qb.size (fun k hk=>(World.ownsRow.lt qA k hk).1);clear hoS hg hS qA;refine hK.out _ _ (HSB.out _ qb) (fun hS=>?_);clear hK K;try simp only[Act.put,sA,sZ,sS]
     refine rdy 12 (fun K hK=>?_);refine zG rfl 72 rfl _ _ rfl w.heap.size _ _ ss [q] rfl rfl qS qP.rd (by simp;omega) qb.size ?_;intro vQ V9 hoQ hg;replace qM:OwnE V9 w.heap.size (.slice a2 z c2) M:=zj qM hg (fun k hk e=>zh qM qS (by decide) k hk e);replace qb:=qb.grown hg qb.size (fun k hk=>(World.ownsRow.lt qS k hk).1);clear hg hS qS qP;refine hK.out _ _ (HSB.out _ qb) (fun hS=>?_);clear hK K;try simp only[Act.put,sA,sZ,sS]
     refine rdy 13 (fun K hK=>?_);go_simp;refine(zdt (.slice a2 z c2) vQ M (ss++[q]) _ qM.rd hoQ.rd (by omega)).mono ?_;rintro e V10 ⟨u7,rfl,ho7,hm⟩;replace ho7:=ho7.mono qb.size;replace qb:=qb.trans (hm.mono qb.size);clear hm hS hoQ qM;refine hK.out _ _ (HSB.out _ qb) (fun hS=>?_);clear hK K;try simp only[Act.put,sA,sZ,sS]
     refine kG 14 7 hS ?_;refine dne ?_;clear hS;clear lA lA2 lP lP2 hAP;revert ho7;revert qb;revert u7;revert V10;revert vQ;revert vS;revert bP;revert bA;clear V9 V3 V4 V1;refine ?sinkRest15;rotate_left 1;refine zG rfl 66 rfl _ _ rfl w.heap.size _ _ [] ss rfl rfl qA (hs.below qb) (by simp;omega) qb.size ?_;intro vS V3 hoS hg;have qS:OwnI V3 w.heap.size vS ss:=by simpa using hoS
     replace qM:OwnE V3 w.heap.size (.slice a2 z c2) M:=zj qM hg (fun k hk e=>zh qM qA (by decide) k hk e);replace qb:=qb.grown hg qb.size (fun k hk=>(World.ownsRow.lt qA k hk).1);clear hoS hg hS qA;refine hK.out _ _ (HSB.out _ qb) (fun hS=>?_);clear hK K;try simp only[Act.put,sA,sZ,sS]
     refine rdy 11 (fun K hK=>?_);refine zbd rfl 71 rfl (.int .i64 q) 2 (by go_simp;(try rfl)) ?_;intro bP V4 hm hoP lP lP2;have qP:OwnI V4 w.heap.size (.slice (some ⟨bP,0,none⟩) 1 1) [q]:=OwnI.mono hoP qb.size;replace qS:=qS.below hm;replace qM:=qM.below hm;replace qb:=qb.trans (hm.mono qb.size);clear hoP hS hm;refine hK.out _ _ (HSB.out _ qb) (fun hS=>?_);clear hK K;try simp only[Act.put,sA,sZ,sS]
     refine rdy 12 (fun K hK=>?_);refine zG rfl 72 rfl _ _ rfl w.heap.size _ _ ss [q] rfl rfl qS qP.rd (by simp;omega) qb.size ?_;intro vQ V9 hoQ hg;replace qM:OwnE V9 w.heap.size (.slice a2 z c2) M:=zj qM hg (fun k hk e=>zh qM qS (by decide) k hk e);replace qb:=qb.grown hg qb.size (fun k hk=>(World.ownsRow.lt qS k hk).1);clear hg hS qS qP;refine hK.out _ _ (HSB.out _ qb) (fun hS=>?_);clear hK K;try simp only[Act.put,sA,sZ,sS]
     refine rdy 13 (fun K hK=>?_);go_simp;refine(zdt (.slice a2 z c2) vQ M (ss++[q]) _ qM.rd hoQ.rd (by omega)).mono ?_;rintro e V10 ⟨u7,rfl,ho7,hm⟩;replace ho7:=ho7.mono qb.size;replace qb:=qb.trans (hm.mono qb.size);clear hm hS hoQ qM;refine hK.out _ _ (HSB.out _ qb) (fun hS=>?_);clear hK K;try simp only[Act.put,sA,sZ,sS]
     refine kG 14 7 hS ?_;refine dne ?_;clear hS;clear lA lA2 lP lP2;revert ho7;revert qb;revert u7;revert V10;revert vQ;revert vS;revert bP;revert bA;clear V9 V4 V3 V1;refine ?sinkRest15;rotate_left 1;intro bA bP vS vQ V10 u7 qb ho7;rw[HSLM.out] at ho7;obtain⟨a7,c7,hv7⟩:=zK ho7;obtain⟨z7,hz7⟩:∃ z7,z7=SL.length:=⟨_,rfl⟩;rw[← hz7] at hv7 hsl4;have HZ7:Hid (z7=SL.length):=hz7;clear hz7;subst hv7;have zb0:=HBX.out _ qb;have hbl:b<V10.heap.size:=zb0.lt;obtain⟨y0,y1,y2,y3,y4,g0,g1,g2,g3,g4⟩:=zb0.facts;obtain⟨Wc,hWc⟩:∃ Wc,Wc=(V10.setCell ⟨b,1,none⟩ (.slice (some ⟨V10.heap.size,0,none⟩) 0 0)).setCell ⟨b,2,none⟩ (.slice (some ⟨V10.heap.size+1,0,none⟩) 0 0):=⟨_,rfl⟩;have sc:Wc.heap.size=V10.heap.size:=by rw[hWc];simp
     have zc:BoxTr Wc b vm (.slice (some ⟨V10.heap.size,0,none⟩) 0 0) (.slice (some ⟨V10.heap.size+1,0,none⟩) 0 0) q vs:=by rw[hWc];exact zbx (zbG zb0 _) _
     have tc:Touch [b] w Wc:=by rw[hWc];exact((Touch.of_below qb).trans (Touch.set (by simp))).trans (Touch.set (by simp))
     have hne7:∀ k,(Value.slice a7 z7 c7).ownBlock=some k→b≠k:=fun k hk e=>by have:=(World.ownsRow.lt ho7 k hk).1;have:=HBL.out;omega
     have o7c:OwnE Wc w.heap.size (.slice a7 z7 c7) SL:=by rw[hWc];exact zg (zg ho7 hne7) hne7
     have bb1:=za Wc (.cells #[] 118);have oY1:=zcH Wc;obtain⟨Wd,hWd⟩:∃ Wd,Wd=Wc.alloc (.cells #[] 118):=⟨_,rfl⟩;have sd:Wd.heap.size=V10.heap.size+1:=by rw[hWd];simp[sc]
     rw[← hWd] at bb1 oY1;rw[sc] at oY1;have bb2:=za Wd (.cells #[] 118);have qO:=zcH Wd;rw[sd] at qO;have qs0:=qb.size;have qY:=OwnT.mono (oY1.below bb2) qs0;replace qO:=OwnT.mono qO (show w.heap.size≤V10.heap.size+1 by omega);have zb:=(zc.on bb1).on bb2;have qt:=(tc.trans (Touch.of_below bb1)).trans (Touch.of_below bb2);have ho8:=(o7c.below bb1).below bb2;have qs:w.heap.size≤(Wd.alloc (.cells #[] 118)).heap.size:=by simp;omega
     have HYO:Hid ((Value.slice (some ⟨V10.heap.size,0,none⟩) 0 0).ownBlock≠(Value.slice (some ⟨V10.heap.size+1,0,none⟩) 0 0).ownBlock∨(Value.slice (some ⟨V10.heap.size+1,0,none⟩) 0 0).ownBlock=none):=.inl (by simp[Value.ownBlock]);have HWE:Hid (((((V10.setCell ⟨b,1,none⟩ (.slice (some ⟨V10.heap.size,0,none⟩) 0 0)).setCell ⟨b,2,none⟩ (.slice (some ⟨V10.heap.size+1,0,none⟩) 0 0)).alloc (.cells #[] 118)).alloc (.cells #[] 118))=Wd.alloc (.cells #[] 118)):=by unfold Hid;rw[hWd,hWc]
     clear hWc hWd sc sd zc tc hne7 o7c bb1 bb2 oY1 ho7 zb0;by_cases hz7:z7=0
     ·have hzi:¬ (0:Int)<(z7:Int):=by omega
      have HS0:Hid ((sinkM LS ss q).length=0):=by unfold Hid;rw[← HSL.out,← HZ7.out];exact hz7
      have END:Hid (zcV w b vm q vs LS ss k (.returned (.bool true)) (Wd.alloc (.cells #[] 118))):=by
       refine⟨true,rfl,HOKT.out.symm,(fun h=>by cases h),fun _=>⟨_,_,[],zb,qY,qO,(fun t ht=>by cases ht),?_,qt,_,rfl⟩⟩;rw[if_pos HS0.out];rfl
      clear zb qY qO qt ho8 HS0 hz7;go_wp2;rw[HWE.out];go_ret;exact END.out
     ·have hzi:(0:Int)<(z7:Int):=by omega
      have HS0:Hid (¬ (sinkM LS ss q).length=0):=by unfold Hid;rw[← HSL.out,← HZ7.out];exact hz7
      have hsl5:SL.length≤400:=by rw[← HZ7.out];exact hsl4
      have hsl6:0<SL.length:=by rw[← HZ7.out];omega
      clear hz7;go_wp2_with fail
      rw[HWE.out];clear y0 y1 y2 y3 y4 g0 g1 g2 g3 g4;refine wp_region_noPanic ?_;refine wp_region_held_drew (S:=fun _=>True) (by kernel_rfl) trivial (fun hS=>?_);have dd:Below (Wd.alloc (.cells #[] 118)).heap.size (Wd.alloc (.cells #[] 118)) (Wd.alloc (.cells #[] 118)).drew:=(Below.refl _ _).drew;replace zb:=zb.on dd;replace qY:=qY.below dd;replace qO:=qO.below dd;replace qt:=qt.trans (Touch.of_below dd);have ho7:=ho8.below dd;replace qs:=Nat.le_trans qs dd.size;clear dd ho8 HWE;revert ho7;revert qs;revert qt;revert qO;revert qY;revert zb;revert hS;generalize (Wd.alloc (.cells #[] 118)).drew=V;intro hS zb qY qO qt qs ho7;refine kG 0 85 hS ?_;refine kG 1 86 hS ?_;refine kG 2 87 hS ?_;refine kG 3 88 hS ?_;refine kG 5 90 hS ?_;refine wpAnyH_ready (rs:=[4,6]) (by kernel_rfl) (by simp) ?_;refine AllReadyH.cons rfl (fun K hK=>?_) (AllReadyH.cons rfl (fun K hK=>?_) AllReadyH.nil)
      ·obtain⟨y0,y1,y2,y3,y4,g0,g1,g2,g3,g4⟩:=zb.facts;go_simp;refine hK.out _ _ trivial (fun hS=>?_);clear hK K y0 y1 y2 y3 y4 g0 g1 g2 g3 g4;try simp only[Act.put,sA,sZ,sS]
       refine rdy 6 (fun K hK=>?_);go_simp;refine(zcN (.slice a7 z7 c7) SL _ (ho7.rd) HPK.out (by omega) (by omega)).mono ?_;rintro e V3 ⟨vb,vk,rfl,hbI,hkS,hm⟩;replace hbI:=hbI.mono qs;replace hkS:=hkS.mono qs;replace zb:=zb.on hm;replace qO:=qO.below hm;replace qY:=qY.below hm;replace qt:=qt.trans (Touch.of_below hm);replace qs:=Nat.le_trans qs hm.size;obtain⟨ab,cb,heb⟩:=zK hbI;obtain⟨ak,ck,hek⟩:=zK hkS;generalize (zq SL).bits.length=bn at heb;generalize (zq SL).blocks.length=kn at hek;subst heb;subst hek;refine hK.out _ _ trivial (fun hS=>?_);clear hK K hm ho7;try simp only[Act.put,sA,sZ,sS]
       refine rdy 7 (fun K hK=>?_);refine zcK rfl 92 rfl (zq SL).first (zq SL).last (.slice ab bn cb) (.slice ak kn ck) (by go_simp;(try rfl)) ?_;intro bT V4 hm qT;replace qT:OwnT V4 w.heap.size (.slice (some ⟨bT,0,none⟩) 1 1) [⟨zq SL,.slice ab bn cb,.slice ak kn ck⟩]:=OwnT.mono (qT _ _) qs;replace hbI:=hbI.below hm;replace hkS:=hkS.below hm;replace zb:=zb.on hm;replace qO:=qO.below hm;replace qY:=qY.below hm;replace qt:=qt.trans (Touch.of_below hm);replace qs:=Nat.le_trans qs hm.size;refine hK.out _ _ trivial (fun hS=>?_);clear hK K hm;try simp only[Act.put,sA,sZ,sS]
       refine rdy 8 (fun K hK=>?_);refine zal rfl 93 rfl _ _ rfl w.heap.size (.slice (some ⟨V10.heap.size+1,0,none⟩) 0 0) _ [] [⟨zq SL,.slice ab bn cb,.slice ak kn ck⟩] rfl rfl qO (OwnT.rd (B':=w.heap.size) qT (fun t ht=>by rw[List.mem_singleton.1 ht];exact⟨hbI,hkS⟩)) (zdc qT) (by simp) qs ?_;intro vO V5 hoO hg;replace zb:BoxTr V5 b vm (.slice (some ⟨V10.heap.size,0,none⟩) 0 0) (.slice (some ⟨V10.heap.size+1,0,none⟩) 0 0) q vs:=(hg.block b zb.lt (fun e=>zgR zb qO (by decide) b e.symm rfl)).trans zb;replace hbI:OwnI V5 w.heap.size (.slice ab bn cb) (zq SL).bits:=zj hbI hg (fun k hk e=>zh hbI qO (by decide) k hk e);replace hkS:OwnS V5 w.heap.size (.slice ak kn ck) (zq SL).blocks:=zj hkS hg (fun k hk e=>zh hkS qO (by decide) k hk e);have hYO:=HYO.out;replace qY:OwnT V5 w.heap.size (.slice (some ⟨V10.heap.size,0,none⟩) 0 0) []:=zj qY hg (fun k hk e=>by rcases hYO with h | h;exact h (hk.trans e.symm);rw[h] at e;cases e);replace qt:Touch [b] w V5:=zev qt hg (fun k hk=>(World.ownsRow.lt qO k hk).1);replace qs:=Nat.le_trans qs hg.size;obtain⟨aO,cO,heO⟩:=zK hoO;generalize (([]:List TV)++[(⟨zq SL,.slice ab bn cb,.slice ak kn ck⟩:TV)]).length=on2 at heO;subst heO;refine hK.out _ _ trivial (fun hS=>?_);clear hK K hg qO;try simp only[Act.put,sA,sZ,sS]
       refine kG 9 94 hS ?_;refine kG 10 95 hS ?_;refine rdy 11 (fun K hK=>?_);obtain⟨y0,y1,y2,y3,y4,g0,g1,g2,g3,g4⟩:=zb.facts;go_simp;refine hK.out _ _ trivial (fun hS=>?_);clear hK K y0 y1 y2 y3 y4 g0 g1 g2 g3 g4;refine dne ?_;have zf:=zbx zb (.slice aO on2 cO);have hne:∀ {t s n:Nat} {v:Value} {xs:List Value},V5.ownsRow w.heap.size t s v n xs→∀ k,v.ownBlock=some k→b≠k:=fun h k hk e=>by have:=(World.ownsRow.lt h k hk).1;have:=HBL.out;omega
       have END:Hid (zcV w b vm q vs LS ss k (.returned (.bool true)) (V5.setCell ⟨b,2,none⟩ (.slice aO on2 cO))):=by
        refine⟨true,rfl,HOKT.out.symm,(fun h=>by cases h),fun _=>⟨_,.slice aO on2 cO,[⟨zq SL,.slice ab bn cb,.slice ak kn ck⟩],zf,zg qY (hne qY),?_,fun t ht=>?_,?_,qt.trans (Touch.set (by simp)),_,rfl⟩⟩
        ·have h:OwnT V5 w.heap.size (.slice aO on2 cO) [⟨zq SL,.slice ab bn cb,.slice ak kn ck⟩]:=by simpa using hoO
         exact zg h (hne h)
        ·rw[List.mem_singleton.1 ht];exact⟨zg hbI (hne hbI),zg hkS (hne hkS)⟩
        ·rw[if_neg HS0.out,← HSL.out];rfl
       clear zf zb qY hoO hbI hkS qt qs qT hne hS;go_wp2;go_ret;exact END.out
      ·go_simp;refine(zcN (.slice a7 z7 c7) SL _ (ho7.rd) HPK.out (by omega) (by omega)).mono ?_;rintro e V3 ⟨vb,vk,rfl,hbI,hkS,hm⟩;replace hbI:=hbI.mono qs;replace hkS:=hkS.mono qs;replace zb:=zb.on hm;replace qO:=qO.below hm;replace qY:=qY.below hm;replace qt:=qt.trans (Touch.of_below hm);replace qs:=Nat.le_trans qs hm.size;obtain⟨ab,cb,heb⟩:=zK hbI;obtain⟨ak,ck,hek⟩:=zK hkS;generalize (zq SL).bits.length=bn at heb;generalize (zq SL).blocks.length=kn at hek;subst heb;subst hek;refine hK.out _ _ trivial (fun hS=>?_);clear hK K hm ho7;try simp only[Act.put,sA,sZ,sS]
       refine wpAnyH_ready (rs:=[4,7]) (by kernel_rfl) (by simp) ?_;refine AllReadyH.cons rfl (fun K hK=>?_) (AllReadyH.cons rfl (fun K hK=>?_) AllReadyH.nil)
       ·obtain⟨y0,y1,y2,y3,y4,g0,g1,g2,g3,g4⟩:=zb.facts;go_simp;refine hK.out _ _ trivial (fun hS=>?_);clear hK K y0 y1 y2 y3 y4 g0 g1 g2 g3 g4;try simp only[Act.put,sA,sZ,sS]
        refine rdy 7 (fun K hK=>?_);refine zcK rfl 92 rfl (zq SL).first (zq SL).last (.slice ab bn cb) (.slice ak kn ck) (by go_simp;(try rfl)) ?_;intro bT V4 hm qT;replace qT:OwnT V4 w.heap.size (.slice (some ⟨bT,0,none⟩) 1 1) [⟨zq SL,.slice ab bn cb,.slice ak kn ck⟩]:=OwnT.mono (qT _ _) qs;replace hbI:=hbI.below hm;replace hkS:=hkS.below hm;replace zb:=zb.on hm;replace qO:=qO.below hm;replace qY:=qY.below hm;replace qt:=qt.trans (Touch.of_below hm);replace qs:=Nat.le_trans qs hm.size;refine hK.out _ _ trivial (fun hS=>?_);clear hK K hm;try simp only[Act.put,sA,sZ,sS]
        refine rdy 8 (fun K hK=>?_);refine zal rfl 93 rfl _ _ rfl w.heap.size (.slice (some ⟨V10.heap.size+1,0,none⟩) 0 0) _ [] [⟨zq SL,.slice ab bn cb,.slice ak kn ck⟩] rfl rfl qO (OwnT.rd (B':=w.heap.size) qT (fun t ht=>by rw[List.mem_singleton.1 ht];exact⟨hbI,hkS⟩)) (zdc qT) (by simp) qs ?_;intro vO V5 hoO hg;replace zb:BoxTr V5 b vm (.slice (some ⟨V10.heap.size,0,none⟩) 0 0) (.slice (some ⟨V10.heap.size+1,0,none⟩) 0 0) q vs:=(hg.block b zb.lt (fun e=>zgR zb qO (by decide) b e.symm rfl)).trans zb;replace hbI:OwnI V5 w.heap.size (.slice ab bn cb) (zq SL).bits:=zj hbI hg (fun k hk e=>zh hbI qO (by decide) k hk e);replace hkS:OwnS V5 w.heap.size (.slice ak kn ck) (zq SL).blocks:=zj hkS hg (fun k hk e=>zh hkS qO (by decide) k hk e);have hYO:=HYO.out;replace qY:OwnT V5 w.heap.size (.slice (some ⟨V10.heap.size,0,none⟩) 0 0) []:=zj qY hg (fun k hk e=>by rcases hYO with h | h;exact h (hk.trans e.symm);rw[h] at e;cases e);replace qt:Touch [b] w V5:=zev qt hg (fun k hk=>(World.ownsRow.lt qO k hk).1);replace qs:=Nat.le_trans qs hg.size;obtain⟨aO,cO,heO⟩:=zK hoO;generalize (([]:List TV)++[(⟨zq SL,.slice ab bn cb,.slice ak kn ck⟩:TV)]).length=on2 at heO;subst heO;refine hK.out _ _ trivial (fun hS=>?_);clear hK K hg qO;try simp only[Act.put,sA,sZ,sS]
        refine kG 9 94 hS ?_;refine kG 10 95 hS ?_;refine rdy 11 (fun K hK=>?_);obtain⟨y0,y1,y2,y3,y4,g0,g1,g2,g3,g4⟩:=zb.facts;go_simp;refine hK.out _ _ trivial (fun hS=>?_);clear hK K y0 y1 y2 y3 y4 g0 g1 g2 g3 g4;refine dne ?_;have zf:=zbx zb (.slice aO on2 cO);have hne:∀ {t s n:Nat} {v:Value} {xs:List Value},V5.ownsRow w.heap.size t s v n xs→∀ k,v.ownBlock=some k→b≠k:=fun h k hk e=>by have:=(World.ownsRow.lt h k hk).1;have:=HBL.out;omega
        have END:Hid (zcV w b vm q vs LS ss k (.returned (.bool true)) (V5.setCell ⟨b,2,none⟩ (.slice aO on2 cO))):=by
         refine⟨true,rfl,HOKT.out.symm,(fun h=>by cases h),fun _=>⟨_,.slice aO on2 cO,[⟨zq SL,.slice ab bn cb,.slice ak kn ck⟩],zf,zg qY (hne qY),?_,fun t ht=>?_,?_,qt.trans (Touch.set (by simp)),_,rfl⟩⟩
         ·have h:OwnT V5 w.heap.size (.slice aO on2 cO) [⟨zq SL,.slice ab bn cb,.slice ak kn ck⟩]:=by simpa using hoO
          exact zg h (hne h)
         ·rw[List.mem_singleton.1 ht];exact⟨zg hbI (hne hbI),zg hkS (hne hkS)⟩
         ·rw[if_neg HS0.out,← HSL.out];rfl
        clear zf zb qY hoO hbI hkS qt qs qT hne hS;go_wp2;go_ret;exact END.out
       ·refine zcK rfl 92 rfl (zq SL).first (zq SL).last (.slice ab bn cb) (.slice ak kn ck) (by go_simp;(try rfl)) ?_;intro bT V4 hm qT;replace qT:OwnT V4 w.heap.size (.slice (some ⟨bT,0,none⟩) 1 1) [⟨zq SL,.slice ab bn cb,.slice ak kn ck⟩]:=OwnT.mono (qT _ _) qs;replace hbI:=hbI.below hm;replace hkS:=hkS.below hm;replace zb:=zb.on hm;replace qO:=qO.below hm;replace qY:=qY.below hm;replace qt:=qt.trans (Touch.of_below hm);replace qs:=Nat.le_trans qs hm.size;refine hK.out _ _ trivial (fun hS=>?_);clear hK K hm;try simp only[Act.put,sA,sZ,sS]
        refine rdy 4 (fun K hK=>?_);obtain⟨y0,y1,y2,y3,y4,g0,g1,g2,g3,g4⟩:=zb.facts;go_simp;refine hK.out _ _ trivial (fun hS=>?_);clear hK K y0 y1 y2 y3 y4 g0 g1 g2 g3 g4;try simp only[Act.put,sA,sZ,sS]
        refine rdy 8 (fun K hK=>?_);refine zal rfl 93 rfl _ _ rfl w.heap.size (.slice (some ⟨V10.heap.size+1,0,none⟩) 0 0) _ [] [⟨zq SL,.slice ab bn cb,.slice ak kn ck⟩] rfl rfl qO (OwnT.rd (B':=w.heap.size) qT (fun t ht=>by rw[List.mem_singleton.1 ht];exact⟨hbI,hkS⟩)) (zdc qT) (by simp) qs ?_;intro vO V5 hoO hg;replace zb:BoxTr V5 b vm (.slice (some ⟨V10.heap.size,0,none⟩) 0 0) (.slice (some ⟨V10.heap.size+1,0,none⟩) 0 0) q vs:=(hg.block b zb.lt (fun e=>zgR zb qO (by decide) b e.symm rfl)).trans zb;replace hbI:OwnI V5 w.heap.size (.slice ab bn cb) (zq SL).bits:=zj hbI hg (fun k hk e=>zh hbI qO (by decide) k hk e);replace hkS:OwnS V5 w.heap.size (.slice ak kn ck) (zq SL).blocks:=zj hkS hg (fun k hk e=>zh hkS qO (by decide) k hk e);have hYO:=HYO.out;replace qY:OwnT V5 w.heap.size (.slice (some ⟨V10.heap.size,0,none⟩) 0 0) []:=zj qY hg (fun k hk e=>by rcases hYO with h | h;exact h (hk.trans e.symm);rw[h] at e;cases e);replace qt:Touch [b] w V5:=zev qt hg (fun k hk=>(World.ownsRow.lt qO k hk).1);replace qs:=Nat.le_trans qs hg.size;obtain⟨aO,cO,heO⟩:=zK hoO;generalize (([]:List TV)++[(⟨zq SL,.slice ab bn cb,.slice ak kn ck⟩:TV)]).length=on2 at heO;subst heO;refine hK.out _ _ trivial (fun hS=>?_);clear hK K hg qO;try simp only[Act.put,sA,sZ,sS]
        refine kG 9 94 hS ?_;refine kG 10 95 hS ?_;refine rdy 11 (fun K hK=>?_);obtain⟨y0,y1,y2,y3,y4,g0,g1,g2,g3,g4⟩:=zb.facts;go_simp;refine hK.out _ _ trivial (fun hS=>?_);clear hK K y0 y1 y2 y3 y4 g0 g1 g2 g3 g4;refine dne ?_;have zf:=zbx zb (.slice aO on2 cO);have hne:∀ {t s n:Nat} {v:Value} {xs:List Value},V5.ownsRow w.heap.size t s v n xs→∀ k,v.ownBlock=some k→b≠k:=fun h k hk e=>by have:=(World.ownsRow.lt h k hk).1;have:=HBL.out;omega
        have END:Hid (zcV w b vm q vs LS ss k (.returned (.bool true)) (V5.setCell ⟨b,2,none⟩ (.slice aO on2 cO))):=by
         refine⟨true,rfl,HOKT.out.symm,(fun h=>by cases h),fun _=>⟨_,.slice aO on2 cO,[⟨zq SL,.slice ab bn cb,.slice ak kn ck⟩],zf,zg qY (hne qY),?_,fun t ht=>?_,?_,qt.trans (Touch.set (by simp)),_,rfl⟩⟩
         ·have h:OwnT V5 w.heap.size (.slice aO on2 cO) [⟨zq SL,.slice ab bn cb,.slice ak kn ck⟩]:=by simpa using hoO
          exact zg h (hne h)
         ·rw[List.mem_singleton.1 ht];exact⟨zg hbI (hne hbI),zg hkS (hne hkS)⟩
         ·rw[if_neg HS0.out,← HSL.out];rfl
        clear zf zb qY hoO hbI hkS qt qs qT hne hS;go_wp2;go_ret;exact END.out
end Go.Proofs.YtannfbpohhnnkaaGreatDoor
