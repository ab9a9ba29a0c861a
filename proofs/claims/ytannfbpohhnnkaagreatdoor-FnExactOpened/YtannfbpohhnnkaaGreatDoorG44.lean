import Derived.Test.YtannfbpohhnnkaaGreatDoorG43
import Derived.Deep.DeepCutAuto
import Derived.Recover
namespace Go.Proofs.YtannfbpohhnnkaaGreatDoor
set_option maxHeartbeats 16000000
set_option maxRecDepth 100000
open Go.RowKit
theorem pieces3{W0 W:World}{g:Nat}{u1 u3:Value}{A C:List Ent}{x:Ent}(hb:Below W0.heap.size W0 W)(h1:RdE W0 u1 A)(h3:RdE W0 u3 C)(hx:EntAt W g 0 x) :
 Pieces (W.alloc (.cells #[u1,.slice (some ⟨g,0,none⟩) 1 1,u3] 31)) (.slice (some ⟨W.heap.size,0,none⟩) 3 3) [(u1,A),(.slice (some ⟨g,0,none⟩) 1 1,[x]),(u3,C)]:=by
 have hb2:=za W (.cells #[u1,.slice (some ⟨g,0,none⟩) 1 1,u3] 31);refine .inr ⟨W.heap.size,0,3,rfl,Nat.le_refl _,by decide,fun i hi=>?_⟩;match i,hi with
 | 0,_=>exact⟨by simp[World.cell?_alloc_at],(h1.below hb).below hb2⟩
 | 1,_=>exact⟨by simp[World.cell?_alloc_at],zgX (hx.below hb2)⟩
 | 2,_=>exact⟨by simp[World.cell?_alloc_at],(h3.below hb).below hb2⟩
theorem pieces3d{W0 W:World}{g n:Nat}{u1 u3:Value}{A C:List Ent}{x:Ent}(hn:n=W.heap.size)(hb:Below W0.heap.size W0 W)(h1:RdE W0 u1 A)(h3:RdE W0 u3 C)(hx:EntAt W g 0 x) :
 Pieces (W.alloc (.cells #[u1,.slice (some ⟨g,0,none⟩) 1 1,u3] 31)).drew (.slice (some ⟨n,0,none⟩) 3 3) [(u1,A),(.slice (some ⟨g,0,none⟩) 1 1,[x]),(u3,C)]:=by
 subst hn;exact(pieces3 hb h1 h3 hx).below ⟨rfl,rfl,rfl,Nat.le_refl _,fun _ _=>rfl⟩
theorem znc(v:Value)(es:List Ent)(i j m:Nat)(x y:Int)(w:World)(hx:x=(i:Int))(hy:y=(j:Int))(hr:RdE w v es)(hij:i≤j)(hj:j≤es.length)(hm:m=j-i) :
 Calls Tryz.prog 197 #[v,.int .i64 x,.int .i64 y] w fun e w'=>∃ aa cc,e=.returned (.slice aa m cc)∧(∀ W,RdE W v es→RdE W (.slice aa m cc) ((es.take j).drop i))∧w'=w:=by
 refine(zmc v es i j x y w hx hy hr hij hj).mono ?_;rintro e w' ⟨u,rfl,hu,rfl⟩;obtain⟨aa,cc,hf,_⟩:=id (hu _ hr);rw[List.length_drop,List.length_take,Nat.min_eq_left hj,← hm] at hf;subst hf;exact⟨aa,cc,rfl,hu,rfl⟩
theorem joinE3(u1 u2 u3:Value)(A B C:List Ent):joinE [(u1,A),(u2,B),(u3,C)]=A++(B++C):=by simp[joinE]
theorem joined3(w3:World)(x:Ent)(u1 u3:Value)(A C:List Ent)(n:Nat)(h1:RdE w3 u1 A)(h3:RdE w3 u3 C)(hn:n=w3.heap.size+1)(hl:A.length+C.length≤10000) :
 Calls Tryz.prog 118 #[.slice (some ⟨n,0,none⟩) 3 3] ((w3.alloc (.cells #[.string x.key,.string x.val,.int .i64 x.seq,.bool x.gone] 94)).alloc (.cells #[u1,.slice (some ⟨w3.heap.size,0,none⟩) 1 1,u3] 31)).drew fun e w'=>∃ u,e=.returned u∧OwnE w' w3.heap.size u (A++([x]++C))∧Below w3.heap.size w3 w':=by
 have hp:=pieces3d (n:=n) (by rw[hn];simp) (za w3 (.cells #[.string x.key,.string x.val,.int .i64 x.seq,.bool x.gone] 94)) h1 h3 (zbI w3 x 94);have hj:=joinE3 u1 (.slice (some ⟨w3.heap.size,0,none⟩) 1 1) u3 A [x] C;refine(zfh _ _ _ hp (by rw[hj];simp;omega) (by simp)).mono ?_;rintro e w' ⟨u,rfl,ho,hb⟩;rw[hj] at ho;have b2:=(zbp w3 (.cells #[.string x.key,.string x.val,.int .i64 x.seq,.bool x.gone] 94) (.cells #[u1,.slice (some ⟨w3.heap.size,0,none⟩) 1 1,u3] 31)).drew;exact⟨u,rfl,ho.mono b2.size,b2.trans (hb.mono b2.size)⟩
theorem zh7(v:Value)(es:List Ent)(x:Ent)(p:Nat)(s:Bool)(w:World)(hr:RdE w v es)(hok:okL es=true)(hp:atE es x=p)(hs:hasKS es x=s) :
 Calls Tryz.prog 229 #[v,.string x.key,.int .i64 x.seq] w fun e w'=>e=.returned (.tuple #[.int .i64 (p:Nat),.bool s])∧Below w.heap.size w w':=by
 subst hp;subst hs;exact zhE v es x.key x.seq w hr hok
theorem hide{p:Prop}(h:p):Hid p:=h
theorem zlM(v:Value)(es:List Ent)(x:Ent)(w:World)(hr:RdE w v es)(hf:∀ e∈es,Fits e)(hfx:Fits x) :
 Calls Tryz.prog 209 #[v,.agg #[.string x.key,.string x.val,.int .i64 x.seq,.bool x.gone]] w fun e w'=>zlc w es x e w':=by
 obtain⟨a,cap,hv,hl,hm,_⟩:=id hr;unfold maxLen at hm;subst hv;have hbx:=zbI w x 94;have hb0:=za w (.cells #[.string x.key,.string x.val,.int .i64 x.seq,.bool x.gone] 94);have hr0:=hr.below hb0;cases hok:okL es with
 | false =>
  have RES:Hid (putOk es x=false):=by unfold Hid putOk;simp[hok]
  go_enter Tryz.func209,Tryz.ntmps209
  go_wp2_with fail
  refine(zdp _ es _ hr0 hf hok).mono ?_;rintro e w1 ⟨rfl,hb1⟩;have bz:=hb0.trans (hb1.mono (by simp));go_wp2;go_ret2
  exact zd8 RES.out (zdM bz.size) (bz.alloc bz.size _)
 | true =>
  have hlen:=zZ hok;cases hox:okE x with
  | false =>
   have RES:Hid (putOk es x=false):=by unfold Hid putOk;simp[hox]
   go_enter Tryz.func209,Tryz.ntmps209
   go_wp2_with fail
   refine(zaN _ es _ hr0 hf hok).mono ?_;rintro e w1 ⟨rfl,hb1⟩;obtain⟨c0,c1,c2,c3⟩:=hbx.below hb1;simp only[Nat.zero_add] at c1 c2 c3;have bz:=hb0.trans (hb1.mono (by simp));clear hb1 hbx;go_wp2_with fail
   refine(zh3 x _ hfx hox).mono ?_;rintro e w2 ⟨rfl,hb2⟩;have bz2:=bz.trans (hb2.mono bz.size);go_wp2;go_ret2
   exact zd8 RES.out (zdM bz2.size) (bz2.alloc bz2.size _)
  | true =>
   by_cases h300:es.length=300
   ·skip
    have RES:Hid (putOk es x=false):=by unfold Hid putOk;simp[h300]
    have hq:((es.length:Int)==300)=true:=by simp;omega
    clear h300;go_enter Tryz.func209,Tryz.ntmps209
    go_wp2_with fail
    refine(zaN _ es _ hr0 hf hok).mono ?_;rintro e w1 ⟨rfl,hb1⟩;obtain⟨c0,c1,c2,c3⟩:=hbx.below hb1;simp only[Nat.zero_add] at c1 c2 c3;have bz:=hb0.trans (hb1.mono (by simp));clear hb1 hbx;go_wp2_with fail
    refine(zbb x _ hfx hox).mono ?_;rintro e w2 ⟨rfl,hb2⟩;have bz2:=bz.trans (hb2.mono bz.size);go_wp2;go_ret2
    exact zd8 RES.out (zdM bz2.size) (bz2.alloc bz2.size _)
   ·have hq:((es.length:Int)==300)=false:=by simp;omega
    obtain⟨p,hp⟩:∃ p,atE es x=p:=⟨_,rfl⟩;have HP:Hid (atE es x=p):=hp;have hpl:p≤es.length:=by rw[← hp];exact zjG _ _
    clear hp;cases hhs:hasKS es x with
    | true =>
     have RES:Hid (putOk es x=false):=by unfold Hid putOk;simp[hhs]
     go_enter Tryz.func209,Tryz.ntmps209
     go_wp2_with fail
     refine(zaN _ es _ hr0 hf hok).mono ?_;rintro e w1 ⟨rfl,hb1⟩;have hbx1:=hbx.below hb1;obtain⟨c0,c1,c2,c3⟩:=id hbx1;simp only[Nat.zero_add] at c1 c2 c3;have bz:=hb0.trans (hb1.mono (by simp));clear hb1 hbx;go_wp2_with fail
     refine(zbb x _ hfx hox).mono ?_;rintro e w2 ⟨rfl,hb2⟩;have bz2:=bz.trans (hb2.mono bz.size);obtain⟨d0,d1,d2,d3⟩:=hbx1.below hb2;simp only[Nat.zero_add] at d1 d2 d3;clear hb2 hbx1 c0 c1 c2 c3;go_wp2_with fail
     refine(zh7 _ es x p true _ (hr.below bz2) hok HP.out hhs).mono ?_;rintro e w3 ⟨rfl,hb3⟩;have bz3:=bz2.trans (hb3.mono bz2.size);go_wp2;go_ret2
     exact zd8 RES.out (zdM bz3.size) (bz3.alloc bz3.size _)
    | false =>
     have RES:Hid (putOk es x=true):=by unfold Hid putOk;simp[hhs,hok,hox,h300]
     clear h300;go_enter Tryz.func209,Tryz.ntmps209
     go_wp2_with fail
     refine(zaN _ es _ hr0 hf hok).mono ?_;rintro e w1 ⟨rfl,hb1⟩;have hbx1:=hbx.below hb1;obtain⟨c0,c1,c2,c3⟩:=id hbx1;simp only[Nat.zero_add] at c1 c2 c3;have bz:=hb0.trans (hb1.mono (by simp));clear hb1 hbx;go_wp2_with fail
     refine(zbb x _ hfx hox).mono ?_;rintro e w2 ⟨rfl,hb2⟩;have bz2:=bz.trans (hb2.mono bz.size);have hbx2:=hbx1.below hb2;obtain⟨d0,d1,d2,d3⟩:=id hbx2;simp only[Nat.zero_add] at d1 d2 d3;clear hb2 hbx1 c0 c1 c2 c3;go_wp2_with fail
     refine(zh7 _ es x p false _ (hr.below bz2) hok HP.out hhs).mono ?_;rintro e w3 ⟨rfl,hb3⟩;have bz3:=bz2.trans (hb3.mono bz2.size);have hbx3:=hbx2.below hb3;have hr3:=hr.below bz3;clear hb3 hbx2 d0 d1 d2 d3;go_wp2_with fail
     have hl3:=hbx3.lt;obtain⟨c0,c1,c2,c3⟩:=id hbx3;simp only[Nat.zero_add] at c1 c2 c3;have hne:=World.new_ne w3 _ c0;have CUT0:Hid (∀ W,RdE W (.slice a es.length cap) es→Calls Tryz.prog 197 #[.slice a es.length cap,.int .i64 0,.int .i64 (p:Int)] W fun e w'=>∃ aa cc,e=.returned (.slice aa p cc)∧(∀ W,RdE W (.slice a es.length cap) es→RdE W (.slice aa p cc) ((es.take p).drop 0))∧w'=W):=fun W h=>znc _ es 0 p p 0 p W rfl rfl h (Nat.zero_le _) hpl rfl
     have CUT1:Hid (∀ W,RdE W (.slice a es.length cap) es→Calls Tryz.prog 197 #[.slice a es.length cap,.int .i64 (p:Int),.int .i64 (es.length:Int)] W fun e w'=>∃ aa cc,e=.returned (.slice aa (es.length-p) cc)∧(∀ W,RdE W (.slice a es.length cap) es→RdE W (.slice aa (es.length-p) cc) ((es.take es.length).drop p))∧w'=W):=fun W h=>znc _ es p es.length (es.length-p) p es.length W rfl rfl h hpl (Nat.le_refl _) rfl
     go_region_held3 (fun w'=>w'.cell? ⟨w.heap.size,0,none⟩=some (.string x.key)∧w'.cell? ⟨w.heap.size,1,none⟩=some (.string x.val)∧w'.cell? ⟨w.heap.size,2,none⟩=some (.int .i64 x.seq)∧w'.cell? ⟨w.heap.size,3,none⟩=some (.bool x.gone)) (go_keep)
      (first
       | (go_at_call_of 197 (Value.int IntKind.i64 0);refine(CUT0.out _ ?_).mono ?_;(first | exact hr3 | exact hr3.below (za _ _).drew | exact RdE.below (w:=w3.drew) hr3 (za _ _));rintro e w4 ⟨a1,k1,rfl,hu1,rfl⟩;have HU1:=hide hu1;clear hu1)
       | (go_at_call_of 197 (Value.int IntKind.i64 (es.length:Int));refine(CUT1.out _ ?_).mono ?_;(first | exact hr3 | exact hr3.below (za _ _).drew | exact RdE.below (w:=w3.drew) hr3 (za _ _));rintro e w5 ⟨a3,k3,rfl,hu3,rfl⟩;have HU3:=hide hu3;clear hu3)
       | (go_at_call 118;refine(joined3 w3 x (.slice a1 p k1) (.slice a3 (es.length-p) k3) ((es.take p).drop 0) ((es.take es.length).drop p) _ (HU1.out _ hr3) (HU3.out _ hr3) rfl (by simp;omega)).mono ?_;rintro e w6 ⟨u6,rfl,ho6,hb6⟩;have hq6:∀ o,w6.cell? ⟨w.heap.size,o,none⟩=w3.cell? ⟨w.heap.size,o,none⟩:=fun o=>(bcell hb6).1 _ o hl3))
     all_goals go_wp2
     all_goals go_ret2
     all_goals
      have e:insE es x=(es.take p).drop 0++([x]++(es.take es.length).drop p):=by unfold insE;rw[HP.out,List.drop_zero,List.take_length];rfl
      refine zlg RES.out ?_ (bz3.trans (hb6.mono bz3.size));rw[e];exact ho6.mono bz3.size
open Go.RowKit
def reMem(Y:TrX)(u:Value)(M:List Ent)(q:Int):TrX:=⟨u,Y.vy,Y.vo,Y.vs,M,Y.ys,Y.os,q,Y.snaps⟩
theorem OwnTree.reMem{w w':World}{lo:Nat}{Y:TrX}{u:Value}{M:List Ent}{q:Int}(h:OwnTree w lo Y)(hlo:lo≤w.heap.size)(hb:Below w.heap.size w w')(hu:OwnE w' w.heap.size u M):OwnTree w' lo (reMem Y u M q):=by
 have h':=h.below hb;refine⟨OwnE.mono hu hlo,h'.young,h'.youngs,h'.old,h'.olds,h'.snaps,?_⟩;have hn:=h.nod;unfold trB at hn ⊢;rw[List.nodup_append] at hn ⊢;refine⟨zX _,hn.2.1,fun a ha c hc e=>?_⟩;subst e;have h1:=(World.ownsRow.lt hu a (mem_oneB.1 ha)).1;have h2:=(h.bound (k:=a) (by unfold trB;exact List.mem_append_right _ hc)).2;omega
def zdk(w:World)(T:Tre)(xs:List Wri)(e:Ending)(w':World):Prop :=
 ∃ Y:TrX,e=.returned (.tuple #[.agg #[Y.vm,Y.vy,Y.vo,.int .i64 Y.seq,Y.vs],.bool (zx T xs)])∧(zx T xs=true→Y.tre=zw T xs∧OwnTree w' w.heap.size Y)∧(zx T xs=false→Y=⟨.slice none 0 0,.slice none 0 0,.slice none 0 0,.slice none 0 0,[],[],[],0,[]⟩)∧Below w.heap.size w w'
theorem room_all{T:Tre}{xs:List Wri}(h:zx T xs=true):xs.length≤20∧xs.all wriOk=true∧T.seq+(xs.length:Int)≤1000000∧T.mem.length+xs.length≤300:=by
 unfold zx zC at h;simp only[Bool.and_eq_true,decide_eq_true_eq] at h;exact⟨h.1.1.1,h.1.1.2,h.1.2,h.2⟩
theorem room_not{T:Tre}(ht:TreeP T){xs:List Wri}{k:Nat}(hk:k<xs.length)(h:putOk (zw T (xs.take k)).mem (wriE (nthW xs k) ((zw T (xs.take k)).seq+1))=false):zx T xs=false:=by
 rw[Bool.eq_false_iff];intro hr;obtain⟨-,h2,h3,h4⟩:=room_all hr;have hlt:(xs.take k).length=k:=by rw[List.length_take];omega
 have hall:(xs.take k).all wriOk=true:=by
  rw[List.all_eq_true] at h2 ⊢;exact fun x hx=>h2 x (List.mem_of_mem_take hx)
 have hp:=zgS ht hall (by rw[hlt];omega) (by rw[hlt];omega);rw[zic hp] at h;have hx:wriOk (nthW xs k)=true:=by
  rw[List.all_eq_true] at h2;exact h2 _ (by rw[zdE hk];exact List.getElem_mem hk)
 rw[hx,zfM,zfF,hlt,decide_eq_true (by omega),decide_eq_true (by omega)] at h;cases h
theorem zpL{T:Tre}{xs:List Wri}{k:Nat}(hk:k<xs.length)(hp:TreeP (zw T (xs.take k)))(h:putOk (zw T (xs.take k)).mem (wriE (nthW xs k) ((zw T (xs.take k)).seq+1))=true):TreeP (zw T (xs.take (k+1)))∧wriOk (nthW xs k)=true:=by
 rw[zic hp] at h;simp only[Bool.and_eq_true,decide_eq_true_eq] at h;rw[zc0 T hk];exact⟨zjH hp h.1.1 h.1.2 h.2,h.1.1⟩
theorem room_yes{T:Tre}{xs:List Wri}(hn:xs.length≤20)(hall:xs.all wriOk=true)(hp:TreeP (zw T xs)):zx T xs=true:=by
 have h1:=hp.seq1;have h2:=zZ hp.mem;rw[zfM] at h1;rw[zfF] at h2;unfold zx zC;rw[hall,decide_eq_true hn,decide_eq_true h1,decide_eq_true h2];rfl
open Go.RowKit
theorem okL_fitW{l:List Ent}(h:okL l=true):∀ e∈l,Fits e:=fun e he=>by
 have:=((za0 _).1 h).2.1 e he;simp only[okE,Bool.and_eq_true,decide_eq_true_eq] at this;exact⟨by omega,by omega,by omega,by omega⟩
theorem OwnTree.box{w:World}{lo c j:Nat}{u:Value}{Y:TrX}(h:OwnTree w lo Y)(hc:c ∉ trB Y):OwnTree (w.setCell ⟨c,j,none⟩ u) lo Y:=by
 have ht:Touch [c] w (w.setCell ⟨c,j,none⟩ u):=Touch.set (by simp);have hr:RowsTr (w.setCell ⟨c,j,none⟩ u) lo Y:=RowsTr.touch ⟨h.mem,h.young,h.youngs,h.old,h.olds,h.snaps⟩ ht (fun k hk e=>hc (List.mem_singleton.1 e ▸ hk));exact⟨hr.mem,hr.young,hr.youngs,hr.old,hr.olds,hr.snaps,h.nod⟩
theorem zeE(X:TrX)(v:Value)(xs:List Wri)(w:World)(hx:RdTr w X)(hs:CpTr X)(ht:TreeP X.tre)(hw:RdW w v xs)(hfw:∀ x∈xs,FitsW x) :
 Calls Tryz.prog 171 #[.agg #[X.vm,X.vy,X.vo,.int .i64 X.seq,X.vs],v] w fun e w'=>zdk w X.tre xs e w':=by
 have HCP:Hid (∀ W,RdTr W X→Calls Tryz.prog 79 #[.agg #[X.vm,X.vy,X.vo,.int .i64 X.seq,X.vs]] W fun e w'=>ToTr W X e w'):=fun W h=>zdR X W h hs
 have HW:Hid (∀ W,Below w.heap.size w W→RdW W v xs):=fun W h=>hw.below h
 have HFW:Hid (∀ x∈xs,FitsW x):=hfw;have HTP:Hid (TreeP X.tre):=ht;obtain⟨a,cap,hv,hl,hmx,_⟩:=id hw;unfold maxLen at hmx;obtain⟨n,hn⟩:∃ n,n=xs.length:=⟨_,rfl⟩;rw[← hn] at hv hl;have HN:Hid (n=xs.length):=hn;subst hv;clear hn hs hfw hw ht;have t0:=zaI w X 34;obtain⟨V0,hV0⟩:∃ V0,V0=w.alloc (.cells #[X.vm,X.vy,X.vo,.int .i64 X.seq,X.vs] 34):=⟨_,rfl⟩;have b0:Below w.heap.size w V0:=by rw[hV0];exact za w _
 have s0:V0.heap.size=w.heap.size+1:=by rw[hV0];simp
 rw[← hV0] at t0;have z1:=zaF V0 (.slice none 0 0) (.slice none 0 0) (.slice none 0 0) (.slice none 0 0) 0;obtain⟨W0,hW0⟩:∃ W0,W0=V0.alloc (.cells #[.slice none 0 0,.slice none 0 0,.slice none 0 0,.int .i64 0,.slice none 0 0] 34):=⟨_,rfl⟩;have b1:Below V0.heap.size V0 W0:=by rw[hW0];exact za V0 _
 have s1:W0.heap.size=w.heap.size+2:=by rw[hW0];simp;omega
 rw[← hW0,s0] at z1;have t1:=t0.below b1;have bw:Below w.heap.size w W0:=b0.trans (b1.mono (by omega));have HW0:Hid ((w.alloc (.cells #[X.vm,X.vy,X.vo,.int .i64 X.seq,X.vs] 34)).alloc (.cells #[.slice none 0 0,.slice none 0 0,.slice none 0 0,.int .i64 0,.slice none 0 0] 34)=W0):=by unfold Hid;rw[hW0,hV0]
 obtain⟨q0,q1,q2,q3,q4⟩:=id t1;rw[hW0,hV0] at q0 q1 q2 q3 q4;clear t0 b0 b1 s0 hV0 hW0;have NOT:Hid (zx X.tre xs=false→∀ W,Below w.heap.size w W→zdk w X.tre xs (.returned (.tuple #[.agg #[.slice none 0 0,.slice none 0 0,.slice none 0 0,.int .i64 0,.slice none 0 0],.bool false])) W):=fun h W hb=>⟨⟨.slice none 0 0,.slice none 0 0,.slice none 0 0,.slice none 0 0,[],[],[],0,[]⟩,by rw[h],(fun h2=>by rw[h] at h2;cases h2),(fun _=>rfl),hb⟩
 by_cases hbig:20<n
 ·have NO:Hid (zx X.tre xs=false):=by unfold Hid zx zC;rw[decide_eq_false (show ¬ xs.length≤20 by rw[← HN.out];omega)];rfl
  have END:Hid (zdk _ _ _ _ _):=NOT.out NO.out W0 bw;clear NO q0 q1 q2 q3 q4 NOT;go_enter Tryz.func171,Tryz.ntmps171
  go_wp2;rw[HW0.out];obtain⟨y0,y1,y2,y3,y4,-⟩:=z1.facts;exact bodyPost_ret (v:=.tuple #[.agg #[.slice none 0 0,.slice none 0 0,.slice none 0 0,.int .i64 0,.slice none 0 0],.bool false]) (by simp[results,Tryz.results171,go_sem,y0,y1,y2,y3,y4]) rfl END.out
 go_enter Tryz.func171,Tryz.ntmps171
 go_wp2_with fail
 rw[HW0.out];clear q0 q1 q2 q3 q4;refine(HCP.out _ (hx.below bw)).mono ?_;rintro e w2 ⟨Y,rfl,heY,hoY,hb2⟩;have z2:=z1.on hb2;have bw2:=bw.trans (hb2.mono bw.size);have s2:w.heap.size+2≤w2.heap.size:=by rw[← s1];exact hb2.size
 have UB:∀ k∈trB Y,k<w2.heap.size:=fun k hk=>(hoY.bound hk).2
 rw[s1] at hoY;clear HCP hb2 z1 bw HW0 t1;obtain⟨am,ay,ao,an,mn,yn,on,nn,cm,cy,co,cn,v0,v1,v2,v3⟩:=hoY.rd.slices;obtain⟨vm4,vy4,vo4,vs4,mem4,ys4,os4,seq4,snaps4⟩:=Y;simp only at v0 v1 v2 v3;subst v0;subst v1;subst v2;subst v3;obtain⟨Y,hY⟩:∃ Y:TrX,Y=⟨.slice am mn cm,.slice ay yn cy,.slice ao on co,.slice an nn cn,mem4,ys4,os4,seq4,snaps4⟩:=⟨_,rfl⟩;have zb:=zaF w2 (.slice am mn cm) (.slice ay yn cy) (.slice ao on co) (.slice an nn cn) seq4;have bb:=za w2 (.cells #[.slice am mn cm,.slice ay yn cy,.slice ao on co,.int .i64 seq4,.slice an nn cn] 34);have z3:=z2.on bb;have bw3:=bw2.trans (bb.mono bw2.size);have ho3:=hoY.below bb;have s3:(w2.alloc (.cells #[.slice am mn cm,.slice ay yn cy,.slice ao on co,.int .i64 seq4,.slice an nn cn] 34)).heap.size=w2.heap.size+1:=by simp
 have HMEM:Hid (mem4=X.tre.mem∧seq4=X.tre.seq∧ys4.map (·.T)=X.tre.young∧os4.map (·.T)=X.tre.old∧snaps4=X.tre.snaps):=⟨congrArg Tre.mem heY,congrArg Tre.seq heY,congrArg Tre.young heY,congrArg Tre.old heY,congrArg Tre.snaps heY⟩;clear heY hoY z2 bw2 bb;rw[← hY] at ho3 UB;have HY:Hid (Y=⟨.slice am mn cm,.slice ay yn cy,.slice ao on co,.slice an nn cn,mem4,ys4,os4,seq4,snaps4⟩):=hY;have ho3':OwnTree (w2.alloc (.cells #[.slice am mn cm,.slice ay yn cy,.slice ao on co,.int .i64 seq4,.slice an nn cn] 34)) (w.heap.size+2) (reMem Y (.slice am mn cm) mem4 seq4):=by
  have e:reMem Y (.slice am mn cm) mem4 seq4=Y:=by rw[hY];rfl
  rw[e];exact ho3
 have nb3:w2.heap.size ∉ trB (reMem Y (.slice am mn cm) mem4 seq4):=by
  have e:reMem Y (.slice am mn cm) mem4 seq4=Y:=by rw[hY];rfl
  rw[e];exact fun h=>by have:=UB _ h;omega
 have NBR:Hid (∀ u M q,(∀ k∈oneB u,w2.heap.size<k)→w2.heap.size ∉ trB (reMem Y u M q)):=fun u M q hu h=>by
  unfold trB reMem at h;rcases List.mem_append.1 h with h | h
  ·have:=hu _ h;omega
  ·have:=UB w2.heap.size (by unfold trB;exact List.mem_append_right _ h);omega
 clear hY ho3 UB;go_wp2;generalize w2.alloc (.cells #[.slice am mn cm,.slice ay yn cy,.slice ao on co,.int .i64 seq4,.slice an nn cn] 34)=W3 at zb z3 bw3 ho3' s3 ⊢;go_loopw [19] (fun i wr=>∃ (k:Nat) (vm':Value) (q:Int) (M:List Ent),k≤n∧i=.int .i64 k∧Hid (BoxTr wr w2.heap.size vm' (.slice ay yn cy) (.slice ao on co) q (.slice an nn cn))∧Hid (OwnTree wr (w.heap.size+2) (reMem Y vm' M q))∧Hid (w2.heap.size ∉ trB (reMem Y vm' M q))∧Hid (M=(zw X.tre (xs.take k)).mem∧q=(zw X.tre (xs.take k)).seq∧TreeP (zw X.tre (xs.take k))∧(xs.take k).all wriOk=true)∧Hid (BoxTr wr (w.heap.size+1) (.slice none 0 0) (.slice none 0 0) (.slice none 0 0) 0 (.slice none 0 0))∧Hid (w2.heap.size+1≤wr.heap.size)∧Hid (Below w.heap.size w wr)) (fun i _=>n-(intOf i).toNat)
 case atStart=>exact⟨0,_,_,mem4,Nat.zero_le _,rfl,zb,ho3',nb3,⟨HMEM.out.1,HMEM.out.2.1,HTP.out,rfl⟩,z3,by unfold Hid;omega,bw3⟩
 case round =>
  obtain⟨k,vm',q,M,hk,rfl,ZB,OT,NB,HP,Z0,SZ,BB⟩:=hrel;clear zb z3 bw3 ho3' nb3 s3;by_cases hlt:k<n
  ·have hkl:k<xs.length:=by rw[← HN.out];exact hlt
   have hkc:k<cap:=by omega
   obtain⟨c,off,rfl,hc⟩:=(HW.out wr BB.out).at HN.out k hkl;have hfx:=HFW.out (nthW xs k) (by rw[zdE hkl];exact List.getElem_mem hkl);obtain⟨p1,p2,p3,p4⟩:=HP.out;have hq0:0≤q:=by rw[p2];exact p3.seq0
   have hq1:q≤1000000:=by rw[p2];exact p3.seq1
   have hq2:0≤q+1:=by omega
   have hq3:q+1≤1000001:=by omega
   have hwrap:IntKind.i64.wrap (q+1)=q+1:=by rw[IntKind.wrap_i64];omega
   have HNO:Hid (putOk M (wriE (nthW xs k) (q+1))=false→zx X.tre xs=false):=fun h=>room_not HTP.out hkl (by rw[← p1,← p2];exact h)
   have HNX:Hid (putOk M (wriE (nthW xs k) (q+1))=true→insE M (wriE (nthW xs k) (q+1))=(zw X.tre (xs.take (k+1))).mem∧q+1=(zw X.tre (xs.take (k+1))).seq∧TreeP (zw X.tre (xs.take (k+1)))∧(xs.take (k+1)).all wriOk=true):=fun h=>by
    have h1:=zpL hkl p3 (by rw[← p1,← p2];exact h);refine⟨?_,?_,h1.1,zfP hkl p4 h1.2⟩
    ·rw[zc0 X.tre hkl,p1,p2];rfl
    ·rw[zc0 X.tre hkl,p2];rfl
   have HFM:Hid (∀ e∈M,Fits e):=by unfold Hid;rw[p1];exact okL_fitW p3.mem
   have HFX:Hid (Fits (wriE (nthW xs k) (q+1))):=⟨hfx.1,hfx.2,by show (-9223372036854775808:Int)≤q+1;omega,by show q+1≤9223372036854775807;omega⟩;clear p1 p2 p3 p4 HP hfx hkl;generalize nthW xs k=x at hc HNO HNX HFX;obtain⟨av,cv,hvv,-⟩:=id OT.out.mem.rd;generalize hvn:(reMem Y vm' M q).mem.length=vn at hvv;change vm'=.slice av vn cv at hvv;subst hvv;obtain⟨c0,c1,c2⟩:=hc;have x4:=zd1 wr x 77;have bb4:=za wr (.cells #[.string x.key,.string x.val,.bool x.gone] 77);have zb4:=ZB.out.on bb4;have ot4:=OT.out.below bb4;have z4:=Z0.out.on bb4;have b4:=BB.out.trans (bb4.mono BB.out.size);have s4:wr.heap.size<(wr.alloc (.cells #[.string x.key,.string x.val,.bool x.gone] 77)).heap.size:=by simp
   have hsz:=SZ.out;obtain⟨y0,y1,y2,y3,y4,-⟩:=zb4.facts;clear ZB OT Z0 BB SZ bb4 hvn;go_wp2_with fail
   generalize wr.alloc (.cells #[.string x.key,.string x.val,.bool x.gone] 77)=W4 at x4 zb4 ot4 z4 b4 s4 y0 y1 y2 y3 y4 ⊢;clear c0 c1 c2;refine wp_region_noPanic ?_;refine wp_region_held_drew (S:=fun w'=>(w'.cell? ⟨w2.heap.size,0,none⟩=some (.slice av vn cv)∧w'.cell? ⟨w2.heap.size,3,none⟩=some (.int .i64 q))∧w'.cell? ⟨wr.heap.size,0,none⟩=some (.string x.key)∧w'.cell? ⟨wr.heap.size,1,none⟩=some (.string x.val)∧w'.cell? ⟨wr.heap.size,2,none⟩=some (.bool x.gone)) (by kernel_rfl) ⟨⟨y0,y3⟩,x4⟩ (fun hH=>?_);have dd:Below W4.heap.size W4 W4.drew:=(Below.refl _ W4).drew;have zbV:=zb4.on dd;have otV:=ot4.below dd;have zV:=z4.on dd;have bV:=b4.trans (dd.mono b4.size);have xV:BoxW W4.drew wr.heap.size x:=x4;have sV:wr.heap.size<W4.drew.heap.size:=s4;clear zb4 ot4 z4 b4 x4 s4 dd y0 y1 y2 y3 y4;revert hH zbV otV zV bV xV sV;generalize W4.drew=V;intro hH zbV otV zV bV xV sV;refine kA 0 24 hH ?_;refine kA 1 25 hH ?_;refine kA 2 26 hH ?_;refine kA 3 27 hH ?_;refine kA 4 28 hH ?_;refine kA 5 29 hH ?_;refine rdy 6 (fun K hK=>?_);go_simp;refine(zgY x (q+1) _).mono ?_;rintro e w5 ⟨rfl,hb5⟩;have zb5:=zbV.on hb5;have ot5:=otV.below hb5;have z5:=zV.on hb5;have b5:=bV.trans (hb5.mono bV.size);have x5:BoxW w5 wr.heap.size x:=⟨(hb5.cell (p:=⟨wr.heap.size,0,none⟩) sV).trans xV.1,(hb5.cell (p:=⟨wr.heap.size,1,none⟩) sV).trans xV.2.1,(hb5.cell (p:=⟨wr.heap.size,2,none⟩) sV).trans xV.2.2⟩;have s5:wr.heap.size<w5.heap.size:=Nat.lt_of_lt_of_le sV hb5.size;obtain⟨y0,y1,y2,y3,y4,-⟩:=zb5.facts
   refine hK.out _ _ ⟨⟨y0,y3⟩,x5⟩ (fun hH2=>?_);clear hK K hH zbV otV zV bV xV sV hb5 y0 y1 y2 y3 y4;try simp only[Act.put,sA,sZ,sS]
   refine rdy 7 (fun K hK=>?_);go_simp;refine(zlM (.slice av vn cv) M (wriE x (q+1)) _ ot5.mem.rd HFM.out HFX.out).mono ?_;rintro e w6 ⟨u,rfl,hu,hb6⟩;have zb6:=zb5.on hb6;have z6:=z5.on hb6;have b6:=b5.trans (hb6.mono b5.size);have x6:BoxW w6 wr.heap.size x:=⟨(hb6.cell (p:=⟨wr.heap.size,0,none⟩) s5).trans x5.1,(hb6.cell (p:=⟨wr.heap.size,1,none⟩) s5).trans x5.2.1,(hb6.cell (p:=⟨wr.heap.size,2,none⟩) s5).trans x5.2.2⟩;have ot6:Hid (OwnTree w6 (w.heap.size+2) (reMem Y u (putL M (wriE x (q+1))) (q+1))):=OwnTree.reMem (Y:=reMem Y (.slice av vn cv) M q) ot5 (by omega) hb6 hu;have nb6:Hid (w2.heap.size ∉ trB (reMem Y u (putL M (wriE x (q+1))) (q+1))):=NBR.out _ _ _ (fun j hj=>by have:=(World.ownsRow.lt hu j (mem_oneB.1 hj)).1;omega);have s6:=hb6.size;obtain⟨av2,cv2,hvv2,-⟩:=id hu.rd;generalize (putL M (wriE x (q+1))).length=vn2 at hvv2;subst hvv2;obtain⟨y0,y1,y2,y3,y4,g0,g1,g2,g3,g4⟩:=zb6.facts;refine hK.out _ _ ⟨⟨y0,y3⟩,x6⟩ (fun hH3=>?_);clear hK K hH2 zb5 ot5 z5 b5 x5 hu hb6 x6;try simp only[Act.put,sA,sZ,sS]
   refine kA 8 23 hH3 ?_;refine kA 9 32 hH3 ?_;refine kA 10 33 hH3 ?_;refine kA 11 9 hH3 ?_;refine kA 12 10 hH3 ?_;refine dne ?_;clear hH3;cases hp:putOk M (wriE x (q+1)) with
   | false =>
    obtain⟨m0,m1,m2,m3,m4,n0,n1,n2,n3,n4⟩:=z6.facts;have hzF:=zH z6 (.slice none 0 0) (.slice none 0 0) (.slice none 0 0) (.slice none 0 0) 0;obtain⟨f0,f1,f2,f3,f4,-⟩:=hzF.facts;have END:Hid (zdk _ _ _ _ _):=NOT.out (HNO.out hp) (put5 w6 (w.heap.size+1) (.slice none 0 0) (.slice none 0 0) (.slice none 0 0) (.int .i64 0) (.slice none 0 0)) (zL b6 (by omega));unfold put5 at f0 f1 f2 f3 f4;clear HNO HNX hp hzF z6 zb6 b6 ot6 nb6 NOT y0 y1 y2 y3 y4 g0 g1 g2 g3 g4;go_wp2;exact bodyPost_ret (v:=.tuple #[.agg #[.slice none 0 0,.slice none 0 0,.slice none 0 0,.int .i64 0,.slice none 0 0],.bool false]) (by simp[results,Tryz.results171,go_sem,f0,f1,f2,f3,f4]) rfl END.out
   | true =>
    have HP2:Hid (putL M (wriE x (q+1))=(zw X.tre (xs.take (k+1))).mem∧q+1=(zw X.tre (xs.take (k+1))).seq∧TreeP (zw X.tre (xs.take (k+1)))∧(xs.take (k+1)).all wriOk=true):=by
     unfold Hid putL;rw[if_pos hp];exact HNX.out hp
    generalize putL M (wriE x (q+1))=M2 at ot6 nb6 HP2;have zb7:=ziv (zbe zb6 (.slice av2 vn2 cv2)) (q+1);have ot7:Hid (OwnTree _ _ _):=(ot6.out.box (j:=0) (u:=.slice av2 vn2 cv2) nb6.out).box (j:=3) (u:=.int .i64 (q+1)) nb6.out;have hne:w.heap.size+1≠w2.heap.size:=by omega
    have z7:=zaZ (c:=w2.heap.size) (j:=3) (u:=.int .i64 (q+1)) (zaZ (c:=w2.heap.size) (j:=0) (u:=.slice av2 vn2 cv2) z6 hne) hne;have b7:Below w.heap.size w ((w6.setCell ⟨w2.heap.size,0,none⟩ (.slice av2 vn2 cv2)).setCell ⟨w2.heap.size,3,none⟩ (.int .i64 (q+1))):=(b6.setCell (p:=⟨w2.heap.size,0,none⟩) (by show w.heap.size≤w2.heap.size;omega) _).setCell (p:=⟨w2.heap.size,3,none⟩) (by show w.heap.size≤w2.heap.size;omega) _;have s7:Hid (w2.heap.size+1≤((w6.setCell ⟨w2.heap.size,0,none⟩ (.slice av2 vn2 cv2)).setCell ⟨w2.heap.size,3,none⟩ (.int .i64 (q+1))).heap.size):=by unfold Hid;simp;omega
    obtain⟨k0,k1,k2,k3,k4,l0,l1,l2,l3,l4⟩:=(zbe zb6 (.slice av2 vn2 cv2)).facts;clear HNO HNX hp z6 b6 ot6 zb6;go_wp2;go_roundw
    case rel=>exact⟨k+1,_,q+1,M2,by omega,by go_num,zb7,ot7,nb6,HP2,z7,s7,b7⟩
    case measure=>simp[intOf];omega
  ·have hke:k=n:=by omega
   have e:xs.take k=xs:=by rw[hke,HN.out,List.take_length]
   obtain⟨p1,p2,p3,p4⟩:=HP.out;rw[e] at p1 p2 p3 p4;have YES:Hid (zx X.tre xs=true):=room_yes (by rw[← HN.out];omega) p4 p3;obtain⟨av,cv,hvv,-⟩:=id OT.out.mem.rd;generalize hvn:(reMem Y vm' M q).mem.length=vn at hvv;change vm'=.slice av vn cv at hvv;subst hvv;obtain⟨y0,y1,y2,y3,y4,g0,g1,g2,g3,g4⟩:=ZB.out.facts;obtain⟨m0,m1,m2,m3,m4,n0,n1,n2,n3,n4⟩:=Z0.out.facts;have hzF:=zH Z0.out (.slice av vn cv) (.slice ay yn cy) (.slice ao on co) (.slice an nn cn) q;obtain⟨f0,f1,f2,f3,f4,-⟩:=hzF.facts;have END:Hid (zdk w X.tre xs (.returned (.tuple #[.agg #[.slice av vn cv,.slice ay yn cy,.slice ao on co,.int .i64 q,.slice an nn cn],.bool true])) (put5 wr (w.heap.size+1) (.slice av vn cv) (.slice ay yn cy) (.slice ao on co) (.int .i64 q) (.slice an nn cn))):=by
    have nb1:w.heap.size+1 ∉ trB (reMem Y (.slice av vn cv) M q):=fun h=>by have:=(OT.out.bound h).1;omega
    refine⟨reMem Y (.slice av vn cv) M q,by rw[YES.out,HY.out];rfl,fun _=>⟨?_,?_⟩,(fun h=>by rw[YES.out] at h;cases h),zL BB.out (by omega)⟩
    ·obtain⟨e1,e2,e3⟩:=zcS X.tre xs;obtain⟨-,-,r3,r4,r5⟩:=HMEM.out;rw[HY.out];show (⟨M,ys4.map (·.T),os4.map (·.T),q,snaps4⟩:Tre)=zw X.tre xs;rw[p1,p2,r3,r4,r5,← e1,← e2,← e3]
    ·exact OwnTree.mono (((((OT.out.box nb1).box nb1).box nb1).box nb1).box nb1) (by omega)
   unfold put5 at f0 f1 f2 f3 f4;clear hke e p1 p2 p3 p4 ZB OT NB HP Z0 SZ BB hzF hvn;go_wp2;exact bodyPost_ret (v:=.tuple #[.agg #[.slice av vn cv,.slice ay yn cy,.slice ao on co,.int .i64 q,.slice an nn cn],.bool true]) (by simp[results,Tryz.results171,go_sem,f0,f1,f2,f3,f4]) rfl END.out
open Go.RowKit
theorem zfG{w:World}{b:Nat}{u0 u1 u2 u3 u4:Value}:Touch [b] w (put5 w b u0 u1 u2 u3 u4) :=
 ((((Touch.set (by simp)).trans (Touch.set (by simp))).trans (Touch.set (by simp))).trans (Touch.set (by simp))).trans (Touch.set (by simp))
open Go.RowKit
theorem zbR{w:World}{lo c:Nat}{Y:TrX}{u0 u1 u2 u3 u4:Value}(h:OwnTree w lo Y)(hc:c<lo):OwnTree (put5 w c u0 u1 u2 u3 u4) lo Y:=by
 have hn:c ∉ trB Y:=fun e=>by have:=(h.bound e).1;omega
 exact((((h.other hn).other hn).other hn).other hn).other hn
theorem OwnTree.rows{w:World}{lo:Nat}{Y:TrX}(h:OwnTree w lo Y):RowsTr w lo Y:=⟨h.mem,h.young,h.youngs,h.old,h.olds,h.snaps⟩
theorem OwnTree.lower{w:World}{lo lo':Nat}{Y:TrX}(h:OwnTree w lo Y)(hb:lo'≤lo):OwnTree w lo' Y:=⟨h.mem.mono hb,h.young.mono hb,h.youngs.mono hb,h.old.mono hb,h.olds.mono hb,h.snaps.mono hb,h.nod⟩
def zmx(w:World)(T:Tre)(e:Ending)(w':World):Prop:=∃ Y:TrX,e=.returned (.agg #[Y.vm,Y.vy,Y.vo,.int .i64 Y.seq,Y.vs])∧Y.tre=T∧OwnTree w' w.heap.size Y∧Below w.heap.size w w'
theorem znG(X:TrX)(w:World)(hx:RdTr w X)(hp:TreeP X.tre)(hc:CpTr X) :
 Calls Tryz.prog 58 #[.agg #[X.vm,X.vy,X.vo,.int .i64 X.seq,X.vs]] w fun e w'=>zmx w (tidyT X.tre) e w':=by
 obtain⟨am1,ay1,ao1,an1,mn1,yn1,on1,nn1,cm1,cy1,co1,cn1,v0,v1,v2,v3⟩:=RdTr.slices hx;obtain⟨vm0,vy0,vo0,vs0,mem1,ys1,os1,seq1,snaps1⟩:=X;simp only at v0 v1 v2 v3;subst v0;subst v1;subst v2;subst v3;obtain⟨V0,hV0⟩:∃ V,V=w.alloc (.cells #[.slice am1 mn1 cm1,.slice ay1 yn1 cy1,.slice ao1 on1 co1,.int .i64 seq1,.slice an1 nn1 cn1] 34):=⟨_,rfl⟩;have s0:V0.heap.size=w.heap.size+1:=by rw[hV0];simp
 obtain⟨W0,hW0⟩:∃ V,V=V0.alloc (.cells #[.slice none 0 0,.slice none 0 0,.slice none 0 0,.int .i64 0,.slice none 0 0] 34):=⟨_,rfl⟩;have s1:W0.heap.size=w.heap.size+2:=by rw[hW0];simp[s0]
 have x0:BoxedT V0 w.heap.size ⟨.slice am1 mn1 cm1,.slice ay1 yn1 cy1,.slice ao1 on1 co1,.slice an1 nn1 cn1,mem1,ys1,os1,seq1,snaps1⟩:=by rw[hV0];exact BoxedT.new hx
 have r1:BoxTr W0 (w.heap.size+1) (.slice none 0 0) (.slice none 0 0) (.slice none 0 0) 0 (.slice none 0 0):=by rw[hW0,← s0];exact zaF V0 _ _ _ _ _
 have bv:Below V0.heap.size V0 W0:=by rw[hW0];exact za V0 _
 have x1:=x0.on bv;have bw:Below w.heap.size w W0:=by
  have:Below w.heap.size w V0:=by rw[hV0];exact za w _
  exact this.trans (bv.mono this.size)
 have HW:Hid ((w.alloc (.cells #[.slice am1 mn1 cm1,.slice ay1 yn1 cy1,.slice ao1 on1 co1,.int .i64 seq1,.slice an1 nn1 cn1] 34)).alloc (.cells #[.slice none 0 0,.slice none 0 0,.slice none 0 0,.int .i64 0,.slice none 0 0] 34)=W0):=by unfold Hid;rw[hW0,hV0]
 obtain⟨f0,f1,f2,f3,f4⟩:=x1.cells;simp only at f0 f1 f2 f3 f4;rw[← HW.out] at f0 f1 f2 f3 f4;clear x0 bv hV0 hW0 s0;have HP:Hid (TreeP (TrX.tre ⟨.slice am1 mn1 cm1,.slice ay1 yn1 cy1,.slice ao1 on1 co1,.slice an1 nn1 cn1,mem1,ys1,os1,seq1,snaps1⟩)):=hp;have HC:Hid (CpTr ⟨.slice am1 mn1 cm1,.slice ay1 yn1 cy1,.slice ao1 on1 co1,.slice an1 nn1 cn1,mem1,ys1,os1,seq1,snaps1⟩):=hc;clear hx hp hc;go_enter Tryz.func58,Tryz.ntmps58
 go_wp2_with fail
 rw[HW.out];clear HW f0 f1 f2 f3 f4;refine(zjc ⟨.slice am1 mn1 cm1,.slice ay1 yn1 cy1,.slice ao1 on1 co1,.slice an1 nn1 cn1,mem1,ys1,os1,seq1,snaps1⟩ _ x1.rd (zhs HP.out) (fun _=>HC.out)).mono ?_;rintro e w1 ⟨Y,rfl,hY,oY,b⟩;have hYP:TreeP Y.tre:=by rw[hY];exact zcX HP.out
 have r2:=r1.on b;replace bw:=bw.trans (b.mono bw.size);have s2:w.heap.size+2≤w1.heap.size:=by rw[← s1];exact b.size
 clear r1 b x1 s1 HC;have hYr:=oY.rd;obtain⟨am2,ay2,ao2,an2,mn2,yn2,on2,nn2,cm2,cy2,co2,cn2,v0,v1,v2,v3⟩:=RdTr.slices hYr;obtain⟨vm0,vy0,vo0,vs0,mem2,ys2,os2,seq2,snaps2⟩:=Y;simp only at v0 v1 v2 v3;subst v0;subst v1;subst v2;subst v3;have HCY:Hid (CpTr ⟨.slice am2 mn2 cm2,.slice ay2 yn2 cy2,.slice ao2 on2 co2,.slice an2 nn2 cn2,mem2,ys2,os2,seq2,snaps2⟩):=zdA hYP oY.rows;obtain⟨b3,hb3⟩:∃ b,b=w1.heap.size:=⟨_,rfl⟩;obtain⟨W1,hW1⟩:∃ W,W=w1.alloc (.cells #[.slice am2 mn2 cm2,.slice ay2 yn2 cy2,.slice ao2 on2 co2,.int .i64 seq2,.slice an2 nn2 cn2] 34):=⟨_,rfl⟩;have H3:BoxedT W1 b3 ⟨.slice am2 mn2 cm2,.slice ay2 yn2 cy2,.slice ao2 on2 co2,.slice an2 nn2 cn2,mem2,ys2,os2,seq2,snaps2⟩:=by rw[hW1,hb3];exact BoxedT.new hYr
 have bb:Below w1.heap.size w1 W1:=by rw[hW1];exact za w1 _
 have HB:Hid (w1.heap.size=b3):=hb3.symm;have HWW:Hid (w1.alloc (.cells #[.slice am2 mn2 cm2,.slice ay2 yn2 cy2,.slice ao2 on2 co2,.int .i64 seq2,.slice an2 nn2 cn2] 34)=W1):=hW1.symm;obtain⟨f0,f1,f2,f3,f4⟩:=H3.cells;simp only at f0 f1 f2 f3 f4;rw[hW1,hb3] at f0 f1 f2 f3 f4;have r3:=r2.on bb;replace bw:=bw.trans (bb.mono bw.size);have s3:w.heap.size+2≤W1.heap.size:=Nat.le_trans s2 bb.size;clear r2 bb hb3 hW1 oY hYr s2;go_wp2_with fail
 rw[HWW.out,HB.out];clear HWW HB f0 f1 f2 f3 f4;refine(zjw ⟨.slice am2 mn2 cm2,.slice ay2 yn2 cy2,.slice ao2 on2 co2,.slice an2 nn2 cn2,mem2,ys2,os2,seq2,snaps2⟩ _ H3.rd (zhs hYP) (fun _=>HCY.out)).mono ?_;rintro e w2 ⟨Y3,rfl,hY3,oY3,b⟩;have hT:Y3.tre=tidyT (TrX.tre ⟨.slice am1 mn1 cm1,.slice ay1 yn1 cy1,.slice ao1 on1 co1,.slice an1 nn1 cn1,mem1,ys1,os1,seq1,snaps1⟩):=by rw[hY3,hY];rfl
 have r4:=r3.on b;replace bw:=bw.trans (b.mono bw.size);have hlt:w.heap.size+1<W1.heap.size:=by omega
 clear r3 b H3 HCY hY hYP hY3 s3;have hYr:=oY3.rd;obtain⟨am3,ay3,ao3,an3,mn3,yn3,on3,nn3,cm3,cy3,co3,cn3,v0,v1,v2,v3⟩:=RdTr.slices hYr;obtain⟨vm0,vy0,vo0,vs0,mem3,ys3,os3,seq3,snaps3⟩:=Y3;simp only at v0 v1 v2 v3;subst v0;subst v1;subst v2;subst v3;have END:Hid (zmx w (tidyT (TrX.tre ⟨.slice am1 mn1 cm1,.slice ay1 yn1 cy1,.slice ao1 on1 co1,.slice an1 nn1 cn1,mem1,ys1,os1,seq1,snaps1⟩)) (.returned (.agg #[.slice am3 mn3 cm3,.slice ay3 yn3 cy3,.slice ao3 on3 co3,.int .i64 seq3,.slice an3 nn3 cn3])) (put5 (w2.alloc (.cells #[.slice am3 mn3 cm3,.slice ay3 yn3 cy3,.slice ao3 on3 co3,.int .i64 seq3,.slice an3 nn3 cn3] 34)) (w.heap.size+1) (.slice am3 mn3 cm3) (.slice ay3 yn3 cy3) (.slice ao3 on3 co3) (.int .i64 seq3) (.slice an3 nn3 cn3))) :=
  ⟨_,rfl,hT,(zbR (oY3.below (za w2 (.cells #[.slice am3 mn3 cm3,.slice ay3 yn3 cy3,.slice ao3 on3 co3,.int .i64 seq3,.slice an3 nn3 cn3] 34))) hlt).lower (by omega),zL (bw.trans ((za w2 (.cells #[.slice am3 mn3 cm3,.slice ay3 yn3 cy3,.slice ao3 on3 co3,.int .i64 seq3,.slice an3 nn3 cn3] 34)).mono bw.size)) (by omega)⟩
 have r5:=r4.on (za w2 (.cells #[.slice am3 mn3 cm3,.slice ay3 yn3 cy3,.slice ao3 on3 co3,.int .i64 seq3,.slice an3 nn3 cn3] 34));have H5:=BoxedT.new hYr;simp only at H5;obtain⟨g0,g1,g2,g3,g4⟩:=H5.cells;simp only at g0 g1 g2 g3 g4;obtain⟨m0,m1,m2,m3,m4,n0,n1,n2,n3,n4⟩:=r5.facts;have hzF:=zH r5 (.slice am3 mn3 cm3) (.slice ay3 yn3 cy3) (.slice ao3 on3 co3) (.slice an3 nn3 cn3) seq3;obtain⟨f0,f1,f2,f3,f4,-⟩:=hzF.facts;unfold put5 at f0 f1 f2 f3 f4 END;clear r4 r5 H5 hzF oY3 hYr bw hT hlt HP;go_wp2;exact bodyPost_ret (v:=.agg #[.slice am3 mn3 cm3,.slice ay3 yn3 cy3,.slice ao3 on3 co3,.int .i64 seq3,.slice an3 nn3 cn3]) (by simp[results,Tryz.results58,go_sem,f0,f1,f2,f3,f4]) rfl END.out
def GErr(w:World)(te:TypeId)(pe:Value):Prop:=w.cell? ⟨0,0,none⟩=some (.iface te pe)
theorem GErr.on{w w':World}{te:TypeId}{pe:Value}(h:GErr w te pe)(hb:Below w.heap.size w w'):GErr w' te pe:=(hb.cell (World.block_lt_of_cell? w _ h)).trans h
def Gives(te:TypeId)(pe:Value):Ending:=.panicked [{ v:=.iface te pe,recovered:=false }]
def zgx(w:World)(T:Tre)(xs:List Wri)(te:TypeId)(pe:Value)(e:Ending)(w':World):Prop :=
 (∃ T',addT T xs=some T'∧∃ Y:TrX,e=.returned (.agg #[Y.vm,Y.vy,Y.vo,.int .i64 Y.seq,Y.vs])∧Y.tre=T'∧OwnTree w' w.heap.size Y∧Below w.heap.size w w')∨(addT T xs=none∧e=Gives te pe∧Below w.heap.size w w')
theorem zqc(X:TrX)(v:Value)(xs:List Wri)(te:TypeId)(pe:Value)(w:World)(hx:RdTr w X)(hp:TreeP X.tre)(hc:CpTr X)(hw:RdW w v xs)(hf:∀ x∈xs,FitsW x)(hg:GErr w te pe) :
 Calls Tryz.prog 130 #[.agg #[X.vm,X.vy,X.vo,.int .i64 X.seq,X.vs],v] w fun e w'=>zgx w X.tre xs te pe e w':=by
 obtain⟨am1,ay1,ao1,an1,mn1,yn1,on1,nn1,cm1,cy1,co1,cn1,v0,v1,v2,v3⟩:=RdTr.slices hx;obtain⟨vm0,vy0,vo0,vs0,mem1,ys1,os1,seq1,snaps1⟩:=X;simp only at v0 v1 v2 v3;subst v0;subst v1;subst v2;subst v3;obtain⟨av,cv,rfl,-⟩:=id hw;obtain⟨V0,hV0⟩:∃ V,V=w.alloc (.cells #[.slice am1 mn1 cm1,.slice ay1 yn1 cy1,.slice ao1 on1 co1,.int .i64 seq1,.slice an1 nn1 cn1] 34):=⟨_,rfl⟩;have s0:V0.heap.size=w.heap.size+1:=by rw[hV0];simp
 obtain⟨W0,hW0⟩:∃ V,V=V0.alloc (.cells #[.slice none 0 0,.slice none 0 0,.slice none 0 0,.int .i64 0,.slice none 0 0] 34):=⟨_,rfl⟩;have s1:W0.heap.size=w.heap.size+2:=by rw[hW0];simp[s0]
 have x0:BoxedT V0 w.heap.size ⟨.slice am1 mn1 cm1,.slice ay1 yn1 cy1,.slice ao1 on1 co1,.slice an1 nn1 cn1,mem1,ys1,os1,seq1,snaps1⟩:=by rw[hV0];exact BoxedT.new hx
 have r1:BoxTr W0 (w.heap.size+1) (.slice none 0 0) (.slice none 0 0) (.slice none 0 0) 0 (.slice none 0 0):=by rw[hW0,← s0];exact zaF V0 _ _ _ _ _
 have bv:Below V0.heap.size V0 W0:=by rw[hW0];exact za V0 _
 have x1:=x0.on bv;have bw:Below w.heap.size w W0:=by
  have:Below w.heap.size w V0:=by rw[hV0];exact za w _
  exact this.trans (bv.mono this.size)
 have HW:Hid ((w.alloc (.cells #[.slice am1 mn1 cm1,.slice ay1 yn1 cy1,.slice ao1 on1 co1,.int .i64 seq1,.slice an1 nn1 cn1] 34)).alloc (.cells #[.slice none 0 0,.slice none 0 0,.slice none 0 0,.int .i64 0,.slice none 0 0] 34)=W0):=by unfold Hid;rw[hW0,hV0]
 obtain⟨f0,f1,f2,f3,f4⟩:=x1.cells;simp only at f0 f1 f2 f3 f4;rw[← HW.out] at f0 f1 f2 f3 f4;clear x0 bv hV0 hW0 s0;have HP:Hid (TreeP (TrX.tre ⟨.slice am1 mn1 cm1,.slice ay1 yn1 cy1,.slice ao1 on1 co1,.slice an1 nn1 cn1,mem1,ys1,os1,seq1,snaps1⟩)):=hp;have HC:Hid (CpTr ⟨.slice am1 mn1 cm1,.slice ay1 yn1 cy1,.slice ao1 on1 co1,.slice an1 nn1 cn1,mem1,ys1,os1,seq1,snaps1⟩):=hc;have HF:Hid (∀ x∈xs,FitsW x):=hf;have hw0:=hw.below bw;have hg0:=hg.on bw;clear hx hp hc hf hw hg;go_enter Tryz.func130,Tryz.ntmps130
 go_wp2_with fail
 rw[HW.out];clear HW f0 f1 f2 f3 f4;obtain⟨tx,htx⟩:∃ t,t=TrX.tre ⟨.slice am1 mn1 cm1,.slice ay1 yn1 cy1,.slice ao1 on1 co1,.slice an1 nn1 cn1,mem1,ys1,os1,seq1,snaps1⟩:=⟨_,rfl⟩;have HTX:Hid (tx=TrX.tre ⟨.slice am1 mn1 cm1,.slice ay1 yn1 cy1,.slice ao1 on1 co1,.slice an1 nn1 cn1,mem1,ys1,os1,seq1,snaps1⟩):=htx;clear htx;refine(zeE ⟨.slice am1 mn1 cm1,.slice ay1 yn1 cy1,.slice ao1 on1 co1,.slice an1 nn1 cn1,mem1,ys1,os1,seq1,snaps1⟩ _ xs _ x1.rd HC.out HP.out hw0 HF.out).mono ?_;rintro e w1 ⟨Y,rfl,hyes,hno,b⟩;rw[← HTX.out] at hyes hno ⊢;have r2:=r1.on b;replace x1:=x1.on b;replace hw0:=hw0.below b;replace hg0:=hg0.on b;replace bw:=bw.trans (b.mono bw.size);have s2:w.heap.size+2≤w1.heap.size:=by rw[← s1];exact b.size
 have hlt0:w.heap.size+1<W0.heap.size:=by omega
 clear r1 b;cases hr:zx tx xs with
 | true =>
  obtain⟨hYt,oY⟩:=hyes hr;clear hyes hno;have hYr:=oY.rd;obtain⟨am2,ay2,ao2,an2,mn2,yn2,on2,nn2,cm2,cy2,co2,cn2,v0,v1,v2,v3⟩:=RdTr.slices hYr;obtain⟨vm0,vy0,vo0,vs0,mem2,ys2,os2,seq2,snaps2⟩:=Y;simp only at v0 v1 v2 v3;subst v0;subst v1;subst v2;subst v3;have END:Hid (zgx w (TrX.tre ⟨.slice am1 mn1 cm1,.slice ay1 yn1 cy1,.slice ao1 on1 co1,.slice an1 nn1 cn1,mem1,ys1,os1,seq1,snaps1⟩) xs te pe (.returned (.agg #[.slice am2 mn2 cm2,.slice ay2 yn2 cy2,.slice ao2 on2 co2,.int .i64 seq2,.slice an2 nn2 cn2])) (put5 (w1.alloc (.cells #[.slice am2 mn2 cm2,.slice ay2 yn2 cy2,.slice ao2 on2 co2,.int .i64 seq2,.slice an2 nn2 cn2] 34)) (w.heap.size+1) (.slice am2 mn2 cm2) (.slice ay2 yn2 cy2) (.slice ao2 on2 co2) (.int .i64 seq2) (.slice an2 nn2 cn2))):=by
   unfold Hid;rw[← HTX.out];exact .inl ⟨_,by unfold addT;rw[if_pos hr],_,rfl,hYt,(zbR (oY.below (za w1 (.cells #[.slice am2 mn2 cm2,.slice ay2 yn2 cy2,.slice ao2 on2 co2,.int .i64 seq2,.slice an2 nn2 cn2] 34))) hlt0).lower (by omega),zL (bw.trans ((za w1 (.cells #[.slice am2 mn2 cm2,.slice ay2 yn2 cy2,.slice ao2 on2 co2,.int .i64 seq2,.slice an2 nn2 cn2] 34)).mono bw.size)) (by omega)⟩
  have r5:=r2.on (za w1 (.cells #[.slice am2 mn2 cm2,.slice ay2 yn2 cy2,.slice ao2 on2 co2,.int .i64 seq2,.slice an2 nn2 cn2] 34));have H5:=BoxedT.new hYr;simp only at H5;obtain⟨g0,g1,g2,g3,g4⟩:=H5.cells;simp only at g0 g1 g2 g3 g4;obtain⟨m0,m1,m2,m3,m4,n0,n1,n2,n3,n4⟩:=r5.facts;have hzF:=zH r5 (.slice am2 mn2 cm2) (.slice ay2 yn2 cy2) (.slice ao2 on2 co2) (.slice an2 nn2 cn2) seq2;obtain⟨f0,f1,f2,f3,f4,-⟩:=hzF.facts;unfold put5 at f0 f1 f2 f3 f4 END;clear r2 r5 H5 hzF oY hYr bw hYt hlt0 HP HC HF HTX x1 hw0 hg0 s2 s1 hr;go_wp2;exact bodyPost_ret (v:=.agg #[.slice am2 mn2 cm2,.slice ay2 yn2 cy2,.slice ao2 on2 co2,.int .i64 seq2,.slice an2 nn2 cn2]) (by simp[results,Tryz.results130,go_sem,f0,f1,f2,f3,f4]) rfl END.out
 | false =>
  obtain rfl:=hno hr;clear hyes hno;have bz:=za w1 (.cells #[.slice none 0 0,.slice none 0 0,.slice none 0 0,.int .i64 0,.slice none 0 0] 34);replace x1:=x1.on bz;replace hw0:=hw0.below bz;replace hg0:=hg0.on bz;have r3:=r2.on bz;replace bw:=bw.trans (bz.mono bw.size);have s3:w.heap.size+2≤(w1.alloc (.cells #[.slice none 0 0,.slice none 0 0,.slice none 0 0,.int .i64 0,.slice none 0 0] 34)).heap.size:=Nat.le_trans s2 bz.size;clear r2 s2 bz;obtain⟨f0,f1,f2,f3,f4⟩:=x1.cells;simp only at f0 f1 f2 f3 f4;go_wp2_with fail
  clear f0 f1 f2 f3 f4;generalize w1.alloc (.cells #[.slice none 0 0,.slice none 0 0,.slice none 0 0,.int .i64 0,.slice none 0 0] 34)=W2 at x1 hw0 hg0 r3 bw s3 ⊢;refine(znG ⟨.slice am1 mn1 cm1,.slice ay1 yn1 cy1,.slice ao1 on1 co1,.slice an1 nn1 cn1,mem1,ys1,os1,seq1,snaps1⟩ _ x1.rd HP.out HC.out).mono ?_;rintro e w3 ⟨Y,rfl,hYt,oY,b⟩;rw[← HTX.out] at hYt;replace hw0:=hw0.below b;replace hg0:=hg0.on b;have r4:=r3.on b;replace bw:=bw.trans (b.mono bw.size);have s4:w.heap.size+2≤w3.heap.size:=Nat.le_trans s3 b.size;have hYP:TreeP Y.tre:=by rw[hYt,HTX.out];exact ziw HP.out
  have hYC:=zdA hYP oY.rows;have hYr:=oY.rd;clear r3 b x1 s3 HC oY;have HYC:Hid (CpTr Y):=hYC;have HYP:Hid (TreeP Y.tre):=hYP;have HYT:Hid (Y.tre=tidyT tx):=hYt;clear hYC hYP hYt;obtain⟨am3,ay3,ao3,an3,mn3,yn3,on3,nn3,cm3,cy3,co3,cn3,v0,v1,v2,v3⟩:=RdTr.slices hYr;obtain⟨vm0,vy0,vo0,vs0,mem3,ys3,os3,seq3,snaps3⟩:=Y;simp only at v0 v1 v2 v3;subst v0;subst v1;subst v2;subst v3;go_wp2_with fail
  refine(zeE ⟨.slice am3 mn3 cm3,.slice ay3 yn3 cy3,.slice ao3 on3 co3,.slice an3 nn3 cn3,mem3,ys3,os3,seq3,snaps3⟩ _ xs _ hYr HYC.out HYP.out hw0 HF.out).mono ?_;rintro e w4 ⟨Y4,rfl,hyes,hno,b⟩;rw[HYT.out] at hyes hno ⊢;replace hg0:=hg0.on b;have r5:=r4.on b;replace bw:=bw.trans (b.mono bw.size);have hlt:w.heap.size+1<w3.heap.size:=by omega
  clear r4 hYr HYC HYP hw0 HF HP b s4;cases hr2:zx (tidyT tx) xs with
  | true =>
   obtain⟨hYt,oY⟩:=hyes hr2;clear hyes hno;have hYr:=oY.rd;obtain⟨am4,ay4,ao4,an4,mn4,yn4,on4,nn4,cm4,cy4,co4,cn4,v0,v1,v2,v3⟩:=RdTr.slices hYr;obtain⟨vm0,vy0,vo0,vs0,mem4,ys4,os4,seq4,snaps4⟩:=Y4;simp only at v0 v1 v2 v3;subst v0;subst v1;subst v2;subst v3;have END:Hid (zgx w (TrX.tre ⟨.slice am1 mn1 cm1,.slice ay1 yn1 cy1,.slice ao1 on1 co1,.slice an1 nn1 cn1,mem1,ys1,os1,seq1,snaps1⟩) xs te pe (.returned (.agg #[.slice am4 mn4 cm4,.slice ay4 yn4 cy4,.slice ao4 on4 co4,.int .i64 seq4,.slice an4 nn4 cn4])) (put5 (w4.alloc (.cells #[.slice am4 mn4 cm4,.slice ay4 yn4 cy4,.slice ao4 on4 co4,.int .i64 seq4,.slice an4 nn4 cn4] 34)) (w.heap.size+1) (.slice am4 mn4 cm4) (.slice ay4 yn4 cy4) (.slice ao4 on4 co4) (.int .i64 seq4) (.slice an4 nn4 cn4))):=by
    unfold Hid;rw[← HTX.out];exact .inl ⟨_,by unfold addT;rw[if_neg (by rw[hr];simp),if_pos hr2],_,rfl,hYt,(zbR (oY.below (za w4 (.cells #[.slice am4 mn4 cm4,.slice ay4 yn4 cy4,.slice ao4 on4 co4,.int .i64 seq4,.slice an4 nn4 cn4] 34))) hlt).lower (by omega),zL (bw.trans ((za w4 (.cells #[.slice am4 mn4 cm4,.slice ay4 yn4 cy4,.slice ao4 on4 co4,.int .i64 seq4,.slice an4 nn4 cn4] 34)).mono bw.size)) (by omega)⟩
   have r6:=r5.on (za w4 (.cells #[.slice am4 mn4 cm4,.slice ay4 yn4 cy4,.slice ao4 on4 co4,.int .i64 seq4,.slice an4 nn4 cn4] 34));have H5:=BoxedT.new hYr;simp only at H5;obtain⟨g0,g1,g2,g3,g4⟩:=H5.cells;simp only at g0 g1 g2 g3 g4;obtain⟨m0,m1,m2,m3,m4,n0,n1,n2,n3,n4⟩:=r6.facts;have hzF:=zH r6 (.slice am4 mn4 cm4) (.slice ay4 yn4 cy4) (.slice ao4 on4 co4) (.slice an4 nn4 cn4) seq4;obtain⟨f0,f1,f2,f3,f4,-⟩:=hzF.facts;unfold put5 at f0 f1 f2 f3 f4 END;clear r5 r6 H5 hzF oY hYr bw hYt hlt HTX hr hr2 hg0 HYT;go_wp2;exact bodyPost_ret (v:=.agg #[.slice am4 mn4 cm4,.slice ay4 yn4 cy4,.slice ao4 on4 co4,.int .i64 seq4,.slice an4 nn4 cn4]) (by simp[results,Tryz.results130,go_sem,f0,f1,f2,f3,f4]) rfl END.out
  | false =>
   obtain rfl:=hno hr2;have bz:=za w4 (.cells #[.slice none 0 0,.slice none 0 0,.slice none 0 0,.int .i64 0,.slice none 0 0] 34);have hg1:GErr (w4.alloc (.cells #[.slice none 0 0,.slice none 0 0,.slice none 0 0,.int .i64 0,.slice none 0 0] 34)) te pe:=hg0.on bz;have END:Hid (zgx w (TrX.tre ⟨.slice am1 mn1 cm1,.slice ay1 yn1 cy1,.slice ao1 on1 co1,.slice an1 nn1 cn1,mem1,ys1,os1,seq1,snaps1⟩) xs te pe (Gives te pe) (w4.alloc (.cells #[.slice none 0 0,.slice none 0 0,.slice none 0 0,.int .i64 0,.slice none 0 0] 34))):=by
    unfold Hid;rw[← HTX.out];exact .inr ⟨by unfold addT;rw[if_neg (by rw[hr];simp),if_neg (by rw[hr2];simp)],rfl,bw.trans (bz.mono bw.size)⟩
   clear hyes hno r5 bw hlt HTX hr hr2 hg0 HYT bz;unfold GErr at hg1;unfold Gives at END;go_wp2;exact⟨rfl,END.out⟩
end Go.Proofs.YtannfbpohhnnkaaGreatDoor
