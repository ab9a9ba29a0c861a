import Derived.Test.YtjlnchhgkfnldaaGreatG39
import Derived.Maps.AppendAt
namespace Go.Proofs.YtjlnchhgkfnldaaGreat
set_option maxHeartbeats 16000000
set_option maxRecDepth 100000
open Go.RowKit
theorem z9(i d:Nat){P:Program}{ops:Array Oper}{Q:Exit→Act→World→Prop}{md:Region.Mode}{S:World→Prop}{oi:Oper}{v:Value}{fuel:Nat}{listed:Array Bool}{a a':Act}{w:World}(hS:S w)(h:wpAnyH P md ops (NoPanic Q) S fuel (listed.setIfInBounds i true) a' w)(hi:ops[i]? = some oi:=by rfl)(hd:oi.dst=some d:=by rfl)(hs:Region.noSelect ops=true:=by kernel_rfl)(hf:Region.free md ops listed i=true:=by kernel_rfl)(hr:(Region.ready md ops listed).contains i=true:=by kernel_rfl)(hw:Region.wanted oi (yielded ops a.tmps)=true:=by kernel_rfl)(hy:∀ w,S w→(execOp a.eval oi).run P w=.ok (.value v) w:=by intro w hS;(try dsimp only[EntAt,TabAt,Nat.zero_add] at hS);go_simp;(try with_reducible rfl))(ha:a.put (some d) v=a':=by (try simp only[Act.put,sA,sZ,sS]);(try rfl)):wpAnyH P md ops (NoPanic Q) S (fuel+1) listed a w:=takeH hi hd hs hf hr (fun _ _ _ h=>h) (Or.inl ⟨hw,hy⟩) hS (ha ▸ h)
theorem zeY(va vb:Value)(us qs:List TV)(w:World)(ha:RdTs w va us)(hb:RdTs w vb qs)(hs:us.map (·.T)=qs.map (·.T)) :
 Calls Tryz.prog 39 #[va,vb] w fun e w'=>e=.returned (.bool true)∧Below w.heap.size w w':=by
 obtain⟨aa,ca,hva,hla,hma,-⟩:=id ha;obtain⟨ab,cb,hvb,hlb,hmb,-⟩:=id hb;have hl:qs.length=us.length:=by have:=congrArg List.length hs;simpa using this.symm
 rw[hl] at hvb hlb;obtain⟨nn,hnn⟩:∃ nn,nn=us.length:=⟨_,rfl⟩;rw[← hnn] at hva hla hvb hlb hl;have HNU:Hid (nn=us.length):=hnn;have HNQ:Hid (qs.length=nn):=hl;have HS:Hid (∀ k,k<nn→(nthT qs k).T=(nthT us k).T):=fun k hk=>by
  have h1:k<us.length:=by omega
  have h2:k<qs.length:=by omega
  have:=congrArg (fun l:List Tbl=>l[k]?) hs;simp only[List.getElem?_map,List.getElem?_eq_getElem h1,List.getElem?_eq_getElem h2,Option.map_some,Option.some.injEq] at this;rw[zba h1,zba h2,this]
 unfold maxLen at hma hmb;subst hva;subst hvb;have hne:((nn:Int) != (nn:Int))=false:=by simp
 clear hnn hl hs;go_enter Tryz.func39,Tryz.ntmps39
 go_wp2;go_loopw [5] (fun i wr=>∃ k:Nat,k≤nn∧i=.int .i64 k∧Below w.heap.size w wr) (fun i _=>nn-(intOf i).toNat)
 case atStart=>exact⟨0,Nat.zero_le _,rfl,Below.refl _ _⟩
 case round =>
  obtain⟨k,hk,rfl,hbw⟩:=hrel;by_cases hlt:k<nn
  ·obtain⟨b1,o1,rfl,hc1,hi1,hk1⟩:=(ha.below hbw).at k (by rw[← HNU.out];exact hlt);obtain⟨b2,o2,rfl,hc2,hi2,hk2⟩:=(hb.below hbw).at k (by rw[HNQ.out];exact hlt);have hT:=HS.out k hlt;rw[hT] at hi2 hk2;have hkc1:k<ca:=(by omega);have hkc2:k<cb:=(by omega);unfold TabAt at hc2;rw[hT] at hc2;clear hT;generalize (nthT qs k).vb=vb2 at hc2 hi2;generalize (nthT qs k).vk=vk2 at hc2 hk2;generalize nthT us k=t at hc1 hi1 hk1 hc2 hi2 hk2;obtain⟨T,vb1,vk1⟩:=t;unfold TabAt at hc1;simp only at hc1 hi1 hk1 hc2 hi2 hk2;go_wp2_with fail
   refine brg (S:=fun w'=>(w'.cell? ⟨b1,o1+k*4,none⟩=some (.string T.first)∧w'.cell? ⟨b1,o1+k*4+1,none⟩=some (.string T.last)∧w'.cell? ⟨b1,o1+k*4+2,none⟩=some vb1∧w'.cell? ⟨b1,o1+k*4+3,none⟩=some vk1)∧w'.cell? ⟨b2,o2+k*4,none⟩=some (.string T.first)∧w'.cell? ⟨b2,o2+k*4+1,none⟩=some (.string T.last)∧w'.cell? ⟨b2,o2+k*4+2,none⟩=some vb2∧w'.cell? ⟨b2,o2+k*4+3,none⟩=some vk2) ⟨hc1,hc2⟩ (fun hH=>?_);clear hc1 hc2;refine z9 0 17 hH ?_;refine z9 1 18 hH ?_;refine z9 2 19 hH ?_;refine z9 3 20 hH ?_;refine z9 4 21 hH ?_;refine z9 5 22 hH ?_;refine z9 6 23 hH ?_;refine z9 7 24 hH ?_;refine z9 8 25 hH ?_;refine z9 9 26 hH ?_;refine z9 10 27 hH ?_;refine z9 11 28 hH ?_;refine z9 12 29 hH ?_;refine z9 13 30 hH ?_;refine z9 14 31 hH ?_;refine z9 15 32 hH ?_;refine z9 16 33 hH ?_;refine z9 17 34 hH ?_;refine z9 18 35 hH ?_;refine z9 19 36 hH ?_;refine z9 20 37 hH ?_;refine z9 21 38 hH ?_;refine z9 22 39 hH ?_;refine z9 23 40 hH ?_;refine z9 24 41 hH ?_;refine z9 25 42 hH ?_;refine z9 26 43 hH ?_;refine z9 27 44 hH ?_;refine z9 28 45 hH ?_;refine z9 29 46 hH ?_;refine z9 30 47 hH ?_;refine z9 31 48 hH ?_;refine z9 32 49 hH ?_;refine z9 33 50 hH ?_;refine z9 34 51 hH ?_;refine rdy 35 (fun K hK=>?_);go_simp;refine(zcM _ _ T.bits _ (by exact hi1) (by exact hi2)).mono ?_;rintro e w1 ⟨rfl,n1,rfl⟩;refine hK.out _ _ (by exact hH) (fun hA=>?_);clear hK K;try simp only[Act.put,sA,sZ,sS]
   refine z9 36 53 hA ?_;refine z9 37 54 hA ?_;refine z9 38 55 hA ?_;refine z9 39 56 hA ?_;refine z9 40 57 hA ?_;refine z9 41 58 hA ?_;refine z9 42 59 hA ?_;refine z9 43 60 hA ?_;refine z9 44 61 hA ?_;refine z9 45 62 hA ?_;refine z9 46 63 hA ?_;refine z9 47 64 hA ?_;refine z9 48 65 hA ?_;refine rdy 49 (fun K hK=>?_);go_simp;refine(zgG _ _ T.blocks _ (by exact hk1) (by exact hk2)).mono ?_;rintro e w2 ⟨rfl,n2,rfl⟩;refine hK.out _ _ (by exact hA) (fun hB=>?_);clear hK K;try simp only[Act.put,sA,sZ,sS]
   refine z9 50 67 hB ?_;refine z9 51 68 hB ?_;refine dne ?_;have bz:Below w.heap.size w (wr.drewN (1+n1+n2)):=below_drewN hbw _;clear hH hA hB;go_wp2;go_roundw
   case rel=>exact⟨k+1,by omega,by go_num,bz⟩
   case measure=>simp[intOf];omega
  ·have hke:k=nn:=(by omega);subst hke;go_wp2;go_ret;exact⟨rfl,hbw⟩
theorem zeG(Y Z:TrX)(w:World)(hy:RdTr w Y)(hz:RdTr w Z)(h:Y.tre=Z.tre) :
 Calls Tryz.prog 10 #[.agg #[Y.vm,Y.vy,Y.vo,.int .i64 Y.seq,Y.vs],.agg #[Z.vm,Z.vy,Z.vo,.int .i64 Z.seq,Z.vs]] w fun e w'=>e=.returned (.bool true)∧Below w.heap.size w w':=by
 have hmem:Y.mem=Z.mem:=congrArg Tre.mem h;have hyo:Y.ys.map (·.T)=Z.ys.map (·.T):=congrArg Tre.young h;have hol:Y.os.map (·.T)=Z.os.map (·.T):=congrArg Tre.old h;have hsq:Y.seq=Z.seq:=congrArg Tre.seq h;have hsn:Y.snaps=Z.snaps:=congrArg Tre.snaps h;have HM:Hid (∀ W,RdTr W Y→RdTr W Z→Calls Tryz.prog 14 #[Y.vm,Z.vm] W fun e w'=>e=.returned (.bool true)∧Below W.heap.size W w'):=fun W h1 h2=>(zec _ _ Y.mem W h1.mem (by rw[hmem];exact h2.mem)).mono (fun _ _ h=>⟨h.1,by obtain⟨n,hn⟩:=h.2;rw[hn];exact below_drewN (Below.refl _ _) n⟩)
 have HY:Hid (∀ W,RdTr W Y→RdTr W Z→Calls Tryz.prog 39 #[Y.vy,Z.vy] W fun e w'=>e=.returned (.bool true)∧Below W.heap.size W w'):=fun W h1 h2=>zeY _ _ _ _ W h1.young h2.young hyo
 have HO:Hid (∀ W,RdTr W Y→RdTr W Z→Calls Tryz.prog 39 #[Y.vo,Z.vo] W fun e w'=>e=.returned (.bool true)∧Below W.heap.size W w'):=fun W h1 h2=>zeY _ _ _ _ W h1.old h2.old hol
 have HS:Hid (∀ W,RdTr W Y→RdTr W Z→Calls Tryz.prog 20 #[Y.vs,Z.vs] W fun e w'=>e=.returned (.bool true)∧∃ n,w'=W.drewN n):=fun W h1 h2=>zcM _ _ Y.snaps W h1.snaps (by rw[hsn];exact h2.snaps)
 clear hmem hyo hol hsn h;rw[hsq];clear hsq;obtain⟨vm,vy,vo,vs,mem,ys,os,seq,snaps⟩:=Y;obtain⟨zm,zy,zo,zs,mem2,ys2,os2,seq2,snaps2⟩:=Z;simp only at HM HY HO HS ⊢;have t0:=zam w ⟨vm,vy,vo,vs,mem,ys,os,seq2,snaps⟩ 28;have b0:=ze w (.cells #[vm,vy,vo,.int .i64 seq2,vs] 28);simp only at t0;obtain⟨W0,hW0⟩:∃ W0,W0=w.alloc (.cells #[vm,vy,vo,.int .i64 seq2,vs] 28):=⟨_,rfl⟩;have s0:W0.heap.size=w.heap.size+1:=by rw[hW0];simp
 rw[← hW0] at t0 b0;have u1:=zam W0 ⟨zm,zy,zo,zs,mem2,ys2,os2,seq2,snaps2⟩ 28;have b1:=ze W0 (.cells #[zm,zy,zo,.int .i64 seq2,zs] 28);simp only at u1;obtain⟨W1,hW1⟩:∃ W1,W1=W0.alloc (.cells #[zm,zy,zo,.int .i64 seq2,zs] 28):=⟨_,rfl⟩;rw[← hW1] at u1 b1;rw[s0] at u1;have t1:=t0.below b1;have bw1:Below w.heap.size w W1:=b0.trans (b1.mono (by omega));have HW1:Hid ((w.alloc (.cells #[vm,vy,vo,.int .i64 seq2,vs] 28)).alloc (.cells #[zm,zy,zo,.int .i64 seq2,zs] 28)=W1):=by unfold Hid;rw[hW1,hW0]
 obtain⟨d0,d1,d2,d3,d4⟩:=id t1;obtain⟨e0,e1,e2,e3,e4⟩:=id u1;simp only at d0 d1 d2 d3 d4 e0 e1 e2 e3 e4;rw[hW1,hW0] at d0 d1 d2 d3 d4 e0 e1 e2 e3 e4;have hq:(seq2 != seq2)=false:=by simp
 clear t0 b0 b1 hW0 hW1 s0;go_enter Tryz.func10,Tryz.ntmps10
 go_wp2_with fail
 rw[HW1.out];refine(HM.out _ (hy.below bw1) (hz.below bw1)).mono ?_;rintro e w2 ⟨rfl,hb2⟩;have t2:=t1.below hb2;have u2:=u1.below hb2;have b2:=bw1.trans (hb2.mono bw1.size);clear d0 d1 d2 d3 d4 e0 e1 e2 e3 e4 t1 u1 bw1 hb2 HM HW1;obtain⟨d0,d1,d2,d3,d4⟩:=id t2;obtain⟨e0,e1,e2,e3,e4⟩:=id u2;simp only at d0 d1 d2 d3 d4 e0 e1 e2 e3 e4;go_wp2_with fail
 refine(HY.out _ (hy.below b2) (hz.below b2)).mono ?_;rintro e w3 ⟨rfl,hb3⟩;have t3:=t2.below hb3;have u3:=u2.below hb3;have b3:=b2.trans (hb3.mono b2.size);clear d0 d1 d2 d3 d4 e0 e1 e2 e3 e4 t2 u2 b2 hb3 HY;obtain⟨d0,d1,d2,d3,d4⟩:=id t3;obtain⟨e0,e1,e2,e3,e4⟩:=id u3;simp only at d0 d1 d2 d3 d4 e0 e1 e2 e3 e4;go_wp2_with fail
 refine(HO.out _ (hy.below b3) (hz.below b3)).mono ?_;rintro e w4 ⟨rfl,hb4⟩;have t4:=t3.below hb4;have u4:=u3.below hb4;have b4:=b3.trans (hb4.mono b3.size);clear d0 d1 d2 d3 d4 e0 e1 e2 e3 e4 t3 u3 b3 hb4 HO;obtain⟨d0,d1,d2,d3,d4⟩:=id t4;obtain⟨e0,e1,e2,e3,e4⟩:=id u4;simp only at d0 d1 d2 d3 d4 e0 e1 e2 e3 e4;go_wp2_with fail
 refine(HS.out _ (hy.below b4) (hz.below b4)).mono ?_;rintro e w5 ⟨rfl,n5,rfl⟩;have b5:=below_drewN b4 n5;clear d0 d1 d2 d3 d4 e0 e1 e2 e3 e4 HS;go_wp2;go_ret;exact⟨rfl,b5⟩
open Go.RowKit
theorem zg8{T:Tbl}(h:zT T=true):T.blocks≠[]:=by
 intro e;unfold zT at h;simp only[Bool.and_eq_true] at h;have h1:=h.1.1.1;unfold allL at h1;rw[e] at h1;simp at h1
theorem zjd{w:World}{v:Value}{ss:List ByteArray}(h:RdS w v ss)(hn:ss≠[]):NilOk v:=by
 obtain⟨a,cap,rfl,_,_,h3⟩:=h;rcases h3 with h3 | ⟨b,off,rfl,_⟩
 ·exact absurd h3 hn
 ·intro n c e;injection e with e1
  cases e1
theorem treeP_cp{X:TrX}{w:World}(h:TreeP X.tre)(hr:RdTr w X)(hy:NilOk X.vy)(ho:NilOk X.vo):CpTr X:=by
 have hl:=zad h.mem;have h1:X.ys.length≤6:=by have:=h.young;rw[show X.tre.young=X.ys.map (·.T) from rfl,List.length_map] at this;exact this
 have h2:X.os.length≤1:=by have:=h.old;rw[show X.tre.old=X.os.map (·.T) from rfl,List.length_map] at this;exact this
 have h3:X.snaps.length≤10:=h.few;have h4:X.mem.length≤300:=hl;obtain⟨_,_,_,_,_,_,hys⟩:=hr.young;obtain⟨_,_,_,_,_,_,hos⟩:=hr.old;refine⟨⟨by omega,by omega,by omega,by omega,fun t ht=>?_,fun t ht=>?_⟩,by omega,hy,ho⟩
 ·have:=zcP (zdb h t ht);exact⟨by omega,by omega,zjd (hys t ht).2 (zg8 (zdb h t ht))⟩
 ·have:=zcP (ze9 h t ht);exact⟨by omega,by omega,zjd (hos t ht).2 (zg8 (ze9 h t ht))⟩
structure BoxedT (W:World) (b:Nat) (X:TrX):Prop where
 box:BoxTr W b X.vm X.vy X.vo X.seq X.vs
 rd:RdTr W X
theorem BoxedT.on{W W':World}{b:Nat}{X:TrX}(h:BoxedT W b X)(hb:Below W.heap.size W W'):BoxedT W' b X:=⟨h.box.on hb,h.rd.below hb⟩
theorem BoxedT.new{W:World}{X:TrX}(h:RdTr W X):BoxedT (W.alloc (.cells #[X.vm,X.vy,X.vo,.int .i64 X.seq,X.vs] 28)) W.heap.size X:=⟨zag W _ _ _ _ _,h.below (ze W _)⟩
def zbk(W:World)(b:Nat)(X:TrX):Prop:=W.cell? ⟨b,0,none⟩=some X.vm∧W.cell? ⟨b,1,none⟩=some X.vy∧W.cell? ⟨b,2,none⟩=some X.vo∧W.cell? ⟨b,3,none⟩=some (.int .i64 X.seq)∧W.cell? ⟨b,4,none⟩=some X.vs
theorem BoxedT.cells{W:World}{b:Nat}{X:TrX}(h:BoxedT W b X):zbk W b X:=by
 obtain⟨f0,f1,f2,f3,f4,-⟩:=h.box.facts;exact⟨f0,f1,f2,f3,f4⟩
def told(o:Option ByteArray):ByteArray×Bool:=(o.getD ⟨#[]⟩,o.isSome)
open Go.RowKit
open Go.RowKit
theorem zoi{T:Tre}(h:TreeP T)(hn:(zj (lsT T)).length≤300):okL (zj (lsT T))=true:=by
 apply zi3;unfold zbd;rw[decide_eq_true hn,decide_eq_true (show (lsT T).length≤20 by
  show (T.mem::(T.young++T.old).map zu).length≤20;have:=h.young;have:=h.old;simp;omega)]
 simp only[Bool.true_and,Bool.and_true];rw[List.all_eq_true];intro l hl;rcases List.mem_cons.1 hl with rfl | hl
 ·exact h.mem
 ·obtain⟨t,ht,rfl⟩:=List.mem_map.1 hl;exact(zac (h.full t ht)).1
def ze5(w:World)(o:Option ByteArray)(e:Ending)(w':World):Prop:=e=.returned (.tuple #[.string (o.getD ⟨#[]⟩),.bool o.isSome])∧Below w.heap.size w w'
theorem readT_no{T:Tre}{k:ByteArray}{q:Int}(h:zI T=false):readT T k q=none:=by unfold readT;rw[if_neg (by rw[h];simp)]
theorem zog{T:Tre}{k:ByteArray}{q:Int}(h:zI T=true):readT T k q=tellE (seenL (allT T).1 k q):=by unfold readT;rw[if_pos h,zfV ((zQ T).1 h)];rfl
theorem zjZ(X:TrX)(key:ByteArray)(q:Int)(w:World)(hx:RdTr w X)(hf:FitTr X) :
 Calls Tryz.prog 19 #[.agg #[X.vm,X.vy,X.vo,.int .i64 X.seq,X.vs],.string key,.int .i64 q] w fun e w'=>ze5 w (readT X.tre key q) e w':=by
 have HALL:Hid (∀ W,RdTr W X→Calls Tryz.prog 47 #[.agg #[X.vm,X.vy,X.vo,.int .i64 X.seq,X.vs]] W fun e w'=>zcq W X e w'):=fun W h=>zgy X W h hf
 have HOK:Hid (∀ W,RdTr W X→Calls Tryz.prog 17 #[.agg #[X.vm,X.vy,X.vo,.int .i64 X.seq,X.vs]] W fun e w'=>e=.returned (.bool (zI X.tre))∧Below W.heap.size W w'):=fun W h=>zaI X W h hf
 have HR1:Hid (zI X.tre=false→readT X.tre key q=none):=readT_no;have HR2:Hid (zI X.tre=true→readT X.tre key q=tellE (seenL (allT X.tre).1 key q)):=zog;unfold zcq at HALL;generalize readT X.tre key q=R at HR1 HR2 ⊢;generalize zI X.tre=ok at HOK HR1 HR2;generalize allT X.tre=AT at HALL HR2;obtain⟨all,is⟩:=AT;simp only at HALL HR2;have ht0:=zam w X 28;have b0:=ze w (.cells #[X.vm,X.vy,X.vo,.int .i64 X.seq,X.vs] 28);obtain⟨q0,q1,q2,q3,q4⟩:=id ht0;go_enter Tryz.func19,Tryz.ntmps19
 go_wp2_with fail
 refine(HALL.out _ (hx.below b0)).mono ?_;rintro e w1 ⟨u,rfl,ho1,hb1⟩;have ht1:=ht0.below hb1;have b1:=b0.trans (hb1.mono b0.size);clear HALL ht0 b0 hb1 q0 q1 q2 q3 q4;obtain⟨q0,q1,q2,q3,q4⟩:=id ht1;go_wp2_with fail
 refine(HOK.out _ (hx.below b1)).mono ?_;rintro e w2 ⟨rfl,hb2⟩;have hr2:=(ho1.below hb2).rd;have b2:=b1.trans (hb2.mono b1.size);clear HOK ht1 ho1 b1 hb2 q0 q1 q2 q3 q4;cases ok with
 | false =>
  have HR:Hid (R=none):=HR1.out rfl;go_wp2;go_ret2
  exact⟨by rw[HR.out];rfl,b2⟩
 | true =>
  have HR:Hid (R=tellE (seenL all key q)):=HR2.out rfl;clear HR1 HR2;go_wp2_with fail
  refine(zhi _ all key q _ hr2).mono ?_;rintro e w3 ⟨rfl,hb3⟩;have b3:=b2.trans (hb3.mono b2.size);clear hr2 b2 hb3;generalize seenL all key q=o at HR;cases o with
  | none =>
   have HN:Hid (R=none):=HR.out;go_wp2;go_ret2
   exact⟨by rw[HN.out];rfl,b3.alloc b3.size _⟩
  | some x =>
   cases hg:x.gone with
   | true =>
    have HN:Hid (R=none):=(by unfold Hid;rw[HR.out];simp[tellE,hg]);simp only[Option.getD_some,Option.isSome_some,hg];clear hg;go_wp2;go_ret2
    exact⟨by rw[HN.out];rfl,b3.alloc b3.size _⟩
   | false =>
    have HN:Hid (R=some x.val):=(by unfold Hid;rw[HR.out];simp[tellE,hg]);simp only[Option.getD_some,Option.isSome_some,hg];clear hg;go_wp2;go_ret2
    exact⟨by rw[HN.out];rfl,b3.alloc b3.size _⟩
theorem znA(w:World)(y:Ent)(t:TypeId):∀ j u,(EC y)[j]? = some u→(w.alloc (.cells #[.string y.key,.string y.val,.int .i64 y.seq,.bool y.gone] t)).cell? ((⟨w.heap.size,0,none⟩:Addr).add j)=some u:=by
 intro j u h;match j with
 | 0=>cases h;simp[Addr.add,World.cell?_alloc_at]
 | 1=>cases h;simp[Addr.add,World.cell?_alloc_at]
 | 2=>cases h;simp[Addr.add,World.cell?_alloc_at]
 | 3=>cases h;simp[Addr.add,World.cell?_alloc_at]
 | j+4=>simp[EC] at h
theorem EC_one(y:Ent):∀ u∈EC y,u.oneCell'=true:=by
 intro u hu;simp only[EC,List.mem_cons,List.not_mem_nil,or_false] at hu;rcases hu with rfl | rfl | rfl | rfl<;>rfl
theorem zhD{w:World}{B:Nat}{v:Value}{es:List Ent}{y:Ent}(h:w.ownsRow B 40 4 v (es.length+1) (EV es++EC y)):OwnE w B v (es++[y]):=by
 unfold OwnE;rw[lA,zcQ,EV_one];exact h
def inR(a b:ByteArray)(e:Ent):Bool:=!kLt e.key a&&kLt e.key b
def scanL(all:List Ent)(a b:ByteArray)(q:Int):List Ent:=(shTo all q all.length).filter (inR a b)
def scanT(T:Tre)(a b:ByteArray)(q:Int):List Ent:=if zI T=true∧(zj (lsT T)).length≤300 then scanL (zj (lsT T)) a b q else []
theorem zke{L:List Ent}{a b:ByteArray}{k:Nat}(hk:k<L.length):(L.take (k+1)).filter (inR a b)=(L.take k).filter (inR a b)++(if inR a b (nth L k)=true then [nth L k] else []):=by
 rw[List.take_succ_eq_append_getElem hk,List.filter_append,zU hk];congr 1
 cases h:inR a b L[k]<;>simp[h]
theorem zo0(es:List Ent)(q:Int):(shTo es q es.length).length≤es.length:=ze6 es q es.length
theorem zmz(v:Value)(all:List Ent)(fr tq:ByteArray)(q:Int)(w:World)(hr:RdE w v all)(hok:okL all=true) :
 Calls Tryz.prog 48 #[v,.string fr,.string tq,.int .i64 q] w fun e w'=>zbq w (scanL all fr tq q) e w':=by
 have hl3:=zad hok;have hle:=zo0 all q;unfold scanL;have HSH:Hid (∀ W,RdE W v all→Calls Tryz.prog 90 #[v,.int .i64 q] W fun e w'=>∃ u,e=.returned u∧OwnE w' W.heap.size u (shTo all q all.length)∧Below W.heap.size W w'):=fun W h=>zkZ v all q W h hok
 generalize shTo all q all.length=L at HSH hle ⊢;have b0:=ze w (.cells #[] 40);have ho0:=zX w;have hs0:(w.alloc (.cells #[] 40)).heap.size=w.heap.size+1:=by simp
 go_enter Tryz.func48,Tryz.ntmps48
 go_wp2_with fail
 refine(HSH.out _ (hr.below b0)).mono ?_;rintro e w1 ⟨u,rfl,ho1,hb1⟩;have b1:=b0.trans (hb1.mono b0.size);have hoo:=ho0.below hb1;have hrL:=ho1.rd;obtain⟨aL,cL,hvL,hlL,hmL,-⟩:=id hrL;obtain⟨nn,hnn⟩:∃ nn,nn=L.length:=⟨_,rfl⟩;rw[← hnn] at hvL hlL hle;have HNN:Hid (nn=L.length):=hnn;subst hvL;unfold maxLen at hmL;have hoK:OwnE w1 (w.heap.size+1) (.slice aL nn cL) L:=by rw[← hs0];exact ho1
 clear hnn HSH b0 ho0 hb1 ho1 hrL hr hs0;have hap:∀ k,(Value.slice aL nn cL).ownBlock=some k→(Value.slice (some ⟨w.heap.size,0,none⟩) 0 0).ownBlock≠some k:=fun k hk e=>by
  have h1:=(oL hoK k hk).1;have h2:w.heap.size=k:=Option.some.inj e;omega
 have HAP:Hid (∀ k,(Value.slice aL nn cL).ownBlock=some k→(Value.slice (some ⟨w.heap.size,0,none⟩) 0 0).ownBlock≠some k):=hap;have hoL:=hoK.mono (Nat.le_succ w.heap.size);clear hap hoK;obtain⟨i0,hi,hz0,hz1,hz2⟩:=info_parts Tryz.info40;go_wp2;go_loopw [9,11] (fun o i wr=>∃ k:Nat,k≤nn∧i=.int .i64 k∧OwnE wr w.heap.size o ((L.take k).filter (inR fr tq))∧OwnE wr w.heap.size (.slice aL nn cL) L∧Hid (∀ k,(Value.slice aL nn cL).ownBlock=some k→o.ownBlock≠some k)∧Below w.heap.size w wr) (fun _ i _=>nn-(intOf i).toNat)
 case atStart=>exact⟨0,Nat.zero_le _,rfl,hoo,hoL,HAP,b1⟩
 case round =>
  clear hoo hoL HAP b1;obtain⟨k,hk,rfl,ho,hoL,HAP,hb⟩:=hrel;by_cases hlt:k<nn
  ·have hkl:k<L.length:=(by rw[← HNN.out];exact hlt);obtain⟨b,off,rfl,hc⟩:=hoL.rd.at HNN.out k hkl;have hkc:k<cL:=(by omega);have HST:=zke (a:=fr) (b:=tq) hkl;obtain⟨y,hy⟩:∃ y,y=nth L k:=⟨_,rfl⟩;rw[← hy] at hc HST;have HS:Hid ((L.take (k+1)).filter (inR fr tq)=(L.take k).filter (inR fr tq)++(if inR fr tq y=true then [y] else [])):=HST;have hfl:((L.take k).filter (inR fr tq)).length≤k:=nT (List.length_filter_le _ _) (by rw[List.length_take];omega);clear HST hy;obtain⟨c0,c1,c2,c3⟩:=id hc;obtain⟨g1,hg1⟩:∃ g1,g1=kLt y.key fr:=⟨_,rfl⟩;obtain⟨g2,hg2⟩:∃ g2,g2=kLt y.key tq:=⟨_,rfl⟩;have hB1:Op.bytesLess y.key.toList fr.toList=g1:=hg1.symm;have hB2:Op.bytesLess y.key.toList tq.toList=g2:=hg2.symm;have hin:inR fr tq y=(!g1&&g2):=(by unfold inR;rw[hg1,hg2]);rw[hin] at HS;clear hg1 hg2 hin;by_cases hgg:g1=false∧g2=true
   ·obtain⟨rfl,rfl⟩:=hgg;have HS2:Hid ((L.take (k+1)).filter (inR fr tq)=(L.take k).filter (inR fr tq)++[y]):=HS.out;have hs:=hb.size;clear HS;go_wp2_with (at_builtin;(refine wpList_append_own_at _ rfl _ _ 24 rfl w.heap.size 40 i0 _ 4 48 Tryz.underlying24 hi hz0 hz1 hz2 rfl (by decide) _ _ _ rfl (World.ownsRow.alloc ho _) ⟨wr.heap.size,0,none⟩ 1 1 (EC y) rfl rfl ?c1 ?c2 ?c3 ?c4 ?c5 ?_))
    case c1=>exact znA _ y _
    case c2=>exact EC_one y
    case c3=>unfold maxLen;omega
    case c4=>omega
    case c5=>simp;omega
    intro v5 w5 ho5 hg5 _ hat;have bb1:=ze wr (.cells #[.string y.key,.string y.val,.int .i64 y.seq,.bool y.gone] 40);have hoL5:=zl (hoL.below bb1) hg5 (fun k hk=>HAP.out k hk);have HAP5:Hid (∀ k,(Value.slice (some ⟨b,off,none⟩) nn cL).ownBlock=some k→v5.ownBlock≠some k):=fun k hk e=>by
     have h1:=(oL hoL k hk).2;rcases hat with hat | hat
     ·rw[hat] at e;exact HAP.out k hk e
     ·rw[hat] at e;have h2:wr.heap.size+1=k:=Option.some.inj e;omega
    have b5:Below w.heap.size w w5:=(hb.alloc hb.size _).grown hg5 (by simp;omega) (fun k hk=>(oL ho k hk).1);have r5:OwnE w5 w.heap.size v5 ((L.take (k+1)).filter (inR fr tq)):=(by rw[HS2.out];exact zhD ho5);clear ho hoL HAP hb ho5 hg5 hat bb1 hc c0 c1 c2 c3;go_wp2;go_roundw
    case rel=>exact⟨k+1,by omega,by go_num,r5,hoL5,HAP5,b5⟩
    case measure=>simp[intOf];omega
   ·skip
    have HS2:Hid ((L.take (k+1)).filter (inR fr tq)=(L.take k).filter (inR fr tq)):=by
     unfold Hid;rw[HS.out];cases g1<;>cases g2<;>simp at hgg ⊢
    have r5:OwnE wr w.heap.size u9 ((L.take (k+1)).filter (inR fr tq)):=(by rw[HS2.out];exact ho);have hcase:(g1=true)∨(g1=false∧g2=false):=(by cases g1<;>cases g2<;>simp at hgg ⊢);clear ho HS HS2 hgg hfl;rcases hcase with rfl | ⟨rfl,rfl⟩
    all_goals
     go_wp2;go_roundw
     case rel=>exact⟨k+1,by omega,by go_num,r5,hoL,HAP,hb⟩
     case measure=>simp[intOf];omega
  ·skip
   have hke:k=nn:=(by omega);subst hke;have r5:OwnE wr w.heap.size u9 (L.filter (inR fr tq)):=(by have:=ho;rw[HNN.out,List.take_length] at this;exact this);clear ho;go_wp2;go_ret;exact⟨_,rfl,r5,hb⟩
theorem ziI{T:Tre}{a b:ByteArray}{q:Int}(h:zI T=false∨300<(allT T).1.length):scanT T a b q=[]:=by
 unfold scanT;rw[if_neg];rintro ⟨h1,h2⟩;rcases h with h | h
 ·rw[h] at h1;cases h1
 ·rw[zfV ((zQ T).1 h1)] at h;have h3:300<(zj (lsT T)).length:=h;omega
theorem zjb{T:Tre}{a b:ByteArray}{q:Int}(h:zI T=true)(hn:(allT T).1.length≤300):scanT T a b q=scanL (allT T).1 a b q∧okL (allT T).1=true:=by
 have hp:=(zQ T).1 h;have ha:=zfV hp;rw[ha] at hn ⊢;exact⟨by unfold scanT;rw[if_pos ⟨h,hn⟩],zoi hp hn⟩
theorem zjY(X:TrX)(fr tq:ByteArray)(q:Int)(w:World)(hx:RdTr w X)(hf:FitTr X) :
 Calls Tryz.prog 15 #[.agg #[X.vm,X.vy,X.vo,.int .i64 X.seq,X.vs],.string fr,.string tq,.int .i64 q] w fun e w'=>zbq w (scanT X.tre fr tq q) e w':=by
 have HALL:Hid (∀ W,RdTr W X→Calls Tryz.prog 47 #[.agg #[X.vm,X.vy,X.vo,.int .i64 X.seq,X.vs]] W fun e w'=>zcq W X e w'):=fun W h=>zgy X W h hf
 have HOK:Hid (∀ W,RdTr W X→Calls Tryz.prog 17 #[.agg #[X.vm,X.vy,X.vo,.int .i64 X.seq,X.vs]] W fun e w'=>e=.returned (.bool (zI X.tre))∧Below W.heap.size W w'):=fun W h=>zaI X W h hf
 have HR1:Hid (zI X.tre=false∨300<(allT X.tre).1.length→scanT X.tre fr tq q=[]):=ziI;have HR2:Hid (zI X.tre=true→(allT X.tre).1.length≤300→scanT X.tre fr tq q=scanL (allT X.tre).1 fr tq q∧okL (allT X.tre).1=true):=zjb;unfold zcq at HALL;generalize scanT X.tre fr tq q=R at HR1 HR2 ⊢;generalize zI X.tre=ok at HOK HR1 HR2;generalize allT X.tre=AT at HALL HR1 HR2;obtain⟨all,is⟩:=AT;simp only at HALL HR1 HR2;have ht0:=zam w X 28;have b0:=ze w (.cells #[X.vm,X.vy,X.vo,.int .i64 X.seq,X.vs] 28);obtain⟨q0,q1,q2,q3,q4⟩:=id ht0;go_enter Tryz.func15,Tryz.ntmps15
 go_wp2_with fail
 refine(HALL.out _ (hx.below b0)).mono ?_;rintro e w1 ⟨u,rfl,ho1,hb1⟩;have ht1:=ht0.below hb1;have b1:=b0.trans (hb1.mono b0.size);clear HALL ht0 b0 hb1 q0 q1 q2 q3 q4;obtain⟨q0,q1,q2,q3,q4⟩:=id ht1;go_wp2_with fail
 refine(HOK.out _ (hx.below b1)).mono ?_;rintro e w2 ⟨rfl,hb2⟩;have hr2:=(ho1.below hb2).rd;have b2:=b1.trans (hb2.mono b1.size);obtain⟨aa,ca,hva,-⟩:=id hr2;obtain⟨an,han⟩:∃ an,an=all.length:=⟨_,rfl⟩;rw[← han] at hva;have HAN:Hid (an=all.length):=han;subst hva;clear HOK ht1 ho1 b1 hb2 q0 q1 q2 q3 q4 han;cases ok with
 | false =>
  have HR:Hid (R=[]):=HR1.out (.inl rfl);go_wp2;go_ret;exact⟨_,rfl,by rw[HR.out];exact(zX w2).mono b2.size,b2.alloc b2.size _⟩
 | true =>
  by_cases h3:300<an
  ·skip
   have HR:Hid (R=[]):=HR1.out (.inr (by rw[← HAN.out];exact h3));have h3i:(300:Int)<(an:Int):=(by omega);go_wp2;go_ret;exact⟨_,rfl,by rw[HR.out];exact(zX w2).mono b2.size,b2.alloc b2.size _⟩
  ·skip
   have h3i:¬ (300:Int)<(an:Int):=(by omega);have HR:=HR2.out rfl (by rw[← HAN.out];omega);have HC:=zmz _ all fr tq q _ hr2 HR.2;have HC1:Hid (Calls _ _ _ _ _):=HC;have HRR:Hid (R=scanL all fr tq q):=HR.1;clear HC HR HR1 HR2;go_wp2_with fail
   refine HC1.out.mono ?_;rintro e w3 ⟨v3,rfl,ho3,hb3⟩;go_wp2;go_ret;exact⟨_,rfl,by rw[HRR.out];exact ho3.mono b2.size,b2.trans (hb3.mono b2.size)⟩
end Go.Proofs.YtjlnchhgkfnldaaGreat
