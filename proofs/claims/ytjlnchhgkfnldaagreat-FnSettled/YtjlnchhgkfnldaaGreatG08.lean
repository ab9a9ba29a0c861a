import Derived.Test.YtjlnchhgkfnldaaGreatG07
import Derived.Deep.LoopGhost
import Derived.WalkMore
namespace Go.Proofs.YtjlnchhgkfnldaaGreat
set_option maxHeartbeats 16000000
set_option maxRecDepth 100000
open Go.RowKit
theorem zmQ(W:World)(x:Ent)(t:TypeId):EntAt (W.alloc (.cells #[.string x.key,.string x.val,.int .i64 x.seq,.bool x.gone] t)) W.heap.size 0 x:=zau W x t
theorem znm(v:Value)(es:List Ent)(t:Ent)(w:World)(hr:RdE w v es)(hok:okL es=true) :
 Calls Tryz.prog 123 #[v,.agg #[.string t.key,.string t.val,.int .i64 t.seq,.bool t.gone],.func (.func 100) #[] #[]] w fun e w' =>
  e=.returned (.tuple #[.int .i64 (atE es t:Nat),.bool (hasKS es t)])∧Below w.heap.size w w':=by
 obtain⟨a,cap,hv,hl,hm,_⟩:=id hr;unfold maxLen at hm;subst hv;have hlen:=zad hok;have hbx:=zmQ w t 40;have hb0:=ze w (.cells #[.string t.key,.string t.val,.int .i64 t.seq,.bool t.gone] 40);go_enter Tryz.func123,Tryz.ntmps123
 go_wp2;go_loopw [9,10] (fun s9 s10 wr=>∃ lo hi:Nat,s9=.int .i64 lo∧s10=.int .i64 hi∧lo≤hi∧hi≤es.length∧Hid (lo≤atE es t∧atE es t≤hi)∧EntAt wr w.heap.size 0 t∧Below w.heap.size w wr) (fun s9 s10 _=>(intOf s10).toNat-(intOf s9).toNat)
 case atStart=>exact⟨0,es.length,rfl,rfl,Nat.zero_le _,nR _,⟨Nat.zero_le _,zlV es t⟩,hbx,hb0⟩
 case round =>
  obtain⟨lo,hi,rfl,rfl,hlh,hin,HA,hx0,hb⟩:=hrel;clear hbx hb0;by_cases hlt:lo<hi
  ·obtain⟨m,hm2⟩:∃ m,m=(lo+hi) / 2:=⟨_,rfl⟩;have hml:m<es.length:=(by omega);have HM:Hid (m=(lo+hi) / 2):=hm2;obtain⟨b,off,rfl,hc⟩:=(hr.below hb).at rfl m hml;obtain⟨y,hy⟩:∃ y,y=nth es m:=⟨_,rfl⟩;rw[← hy] at hc;have HY:Hid (y=nth es m):=hy;clear hy;have hmid:((lo:Int)+(hi:Int)) / 2=(m:Int):=(by omega);cases hah:ahd y t with
   | true =>
    have hor:=zpj hah;have HA2:Hid (m+1≤atE es t∧atE es t≤hi):=by
     refine⟨?_,HA.out.2⟩;rcases Nat.lt_or_ge m (atE es t) with h | h
     ·exact h
     ·have:=zhy hok t h hml;rw[← HY.out,hah] at this;cases this
    clear hm2;go_wp2_with fail
    refine brg (S:=fun w'=>EntAt w' w.heap.size 0 t∧EntAt w' b (off+m*4) y) ⟨hx0,hc⟩ (fun hH=>?_);refine kA 0 24 hH ?_;refine kA 1 25 hH ?_;refine kA 2 26 hH ?_;refine kA 3 27 hH ?_;refine kA 4 28 hH ?_;refine kA 5 29 hH ?_;refine rdy 6 (fun K hK=>?_);go_simp;refine(zaG y t _).mono ?_;rintro e w' ⟨rfl,hb'⟩;refine hK.out _ _ ⟨hH.1.below hb',hH.2.below hb'⟩ (fun hB=>?_);clear hK K;try simp only[Act.put,sA,sZ,sS]
    refine kA 7 31 hB ?_;refine dne ?_;have bz:=hb.drew.trans (hb'.mono hb.size);go_wp2;go_roundw
    case rel=>exact⟨m+1,hi,by go_num,rfl,by have:=HM.out;omega,hin,HA2,hB.1,bz⟩
    case measure=>have:=HM.out;simp[intOf];omega
   | false =>
    have hor:=znN hah;have HA2:Hid (lo≤atE es t∧atE es t≤m):=by
     refine⟨HA.out.1,?_⟩;rcases Nat.lt_or_ge m (atE es t) with h | h
     ·have:=zjg es t h;rw[← HY.out,hah] at this;cases this
     ·exact h
    clear hm2;go_wp2_with fail
    refine brg (S:=fun w'=>EntAt w' w.heap.size 0 t∧EntAt w' b (off+m*4) y) ⟨hx0,hc⟩ (fun hH=>?_);refine kA 0 24 hH ?_;refine kA 1 25 hH ?_;refine kA 2 26 hH ?_;refine kA 3 27 hH ?_;refine kA 4 28 hH ?_;refine kA 5 29 hH ?_;refine rdy 6 (fun K hK=>?_);go_simp;refine(zaG y t _).mono ?_;rintro e w' ⟨rfl,hb'⟩;refine hK.out _ _ ⟨hH.1.below hb',hH.2.below hb'⟩ (fun hB=>?_);clear hK K;try simp only[Act.put,sA,sZ,sS]
    refine kA 7 31 hB ?_;refine dne ?_;have bz:=hb.drew.trans (hb'.mono hb.size);go_wp2;go_roundw
    case rel=>exact⟨lo,m,rfl,rfl,by have:=HM.out;omega,by omega,HA2,hB.1,bz⟩
    case measure=>have:=HM.out;simp[intOf];omega
  ·obtain rfl:hi=lo:=(by omega);have HP:Hid (atE es t=hi):=(by have:=HA.out;unfold Hid;omega);have HH:=has_at hok t;rw[HP.out] at HH;by_cases hpn:hi<es.length
   ·skip
    obtain⟨b,off,rfl,hc⟩:=(hr.below hb).at rfl hi hpn;obtain⟨y,hy⟩:∃ y,y=nth es hi:=⟨_,rfl⟩;rw[← hy] at hc HH;have HR:Hid (hasKS es t=(ordE y t==0)):=by
     unfold Hid;rw[HH,decide_eq_true hpn,Bool.true_and,Bool.eq_iff_iff,beq_iff_eq];exact(zdr y t).symm
    have hkl:decide (hi<es.length)=true:=(by simpa using hpn);clear hy HH;go_wp2_with fail
    refine brg (S:=fun w'=>EntAt w' w.heap.size 0 t∧EntAt w' b (off+hi*4) y) ⟨hx0,hc⟩ (fun hH=>?_);refine kA 0 35 hH ?_;refine kA 1 36 hH ?_;refine kA 2 37 hH ?_;refine kA 3 38 hH ?_;refine kA 4 39 hH ?_;refine kA 5 40 hH ?_;refine kA 6 41 hH ?_;refine kA 7 42 hH ?_;refine kA 8 43 hH ?_;refine kA 9 44 hH ?_;refine kA 10 45 hH ?_;refine rdy 11 (fun K hK=>?_);go_simp;refine(zaG y t _).mono ?_;rintro e w' ⟨rfl,hb'⟩;refine hK.out _ _ ⟨hH.1.below hb',hH.2.below hb'⟩ (fun hB=>?_);clear hK K;try simp only[Act.put,sA,sZ,sS]
    refine kA 12 47 hB ?_;refine kA 13 48 hB ?_;refine kA 14 6 hB ?_;refine kA 15 7 hB ?_;refine dne ?_;have bz:=hb.drew.trans (hb'.mono hb.size);go_wp2;go_ret2
    exact⟨by rw[HP.out,HR.out];rfl,bz⟩
   ·skip
    have HR:Hid (hasKS es t=false):=by
     unfold Hid;rw[HH];simp[hpn]
    have hkl:decide (hi<es.length)=false:=(by simpa using hpn);clear HH;go_wp2_with fail
    refine brg (S:=fun w'=>EntAt w' w.heap.size 0 t) hx0 (fun hH=>?_);refine kA 0 35 hH ?_;refine kA 1 36 hH ?_;refine kA 2 37 hH ?_;refine kA 3 38 hH ?_;refine kA 4 39 hH ?_;refine kS 5 40 hH ?_;refine kS 6 41 hH ?_;refine kS 7 42 hH ?_;refine kS 8 43 hH ?_;refine kS 9 44 hH ?_;refine kS 10 45 hH ?_;refine kS 11 46 hH ?_;refine kS 12 47 hH ?_;refine kA 13 48 hH ?_;refine kA 14 6 hH ?_;refine kA 15 7 hH ?_;refine dne ?_;go_wp2;go_ret2
    exact⟨by rw[HP.out,HR.out];rfl,hb.drew⟩
theorem zkO(v:Value)(es:List Ent)(key:ByteArray)(q:Int)(w:World)(hr:RdE w v es)(hok:okL es=true) :
 Calls Tryz.prog 91 #[v,.string key,.int .i64 q] w fun e w' =>
  e=.returned (.tuple #[.int .i64 (atE es ⟨key,⟨#[]⟩,q,false⟩:Nat),.bool (hasKS es ⟨key,⟨#[]⟩,q,false⟩)])∧Below w.heap.size w w':=by
 go_enter Tryz.func91,Tryz.ntmps91
 go_wp2_with fail
 refine(znm v es ⟨key,⟨#[]⟩,q,false⟩ _ hr hok).mono ?_;rintro e w1 ⟨rfl,hb1⟩;go_wp2;go_ret2
 exact⟨rfl,hb1⟩
open Go.RowKit
theorem zcj(v:Value)(es:List Ent)(w:World)(hr:RdE w v es)(hf:∀ e∈es,Fits e)(h:okL es=true) :
 Calls Tryz.prog 61 #[v] w fun e w'=>e=.returned (.bool true)∧Below w.heap.size w w':=by
 have:=zaz v es w hr hf;rwa [h] at this
theorem zdo(v:Value)(es:List Ent)(w:World)(hr:RdE w v es)(hf:∀ e∈es,Fits e)(h:okL es=false) :
 Calls Tryz.prog 61 #[v] w fun e w'=>e=.returned (.bool false)∧Below w.heap.size w w':=by
 have:=zaz v es w hr hf;rwa [h] at this
theorem zht(v:Value)(es:List Ent)(key:ByteArray)(q:Int)(w:World)(hr:RdE w v es)(hok:okL es=true) :
 Calls Tryz.prog 49 #[v,.string key,.int .i64 q] w fun e w'=>zdZ w (seenL es key q) e w':=by
 obtain⟨a,cap,hv,hl,hm,_⟩:=id hr;unfold maxLen at hm;subst hv;have hz:=zd4 w 40;have hz1:=ze w (.cells #[.string ⟨#[]⟩,.string ⟨#[]⟩,.int .i64 0,.bool false] 40);have hr2:=hr.below hz1;have hlen:=zad hok;have RES:=seen_at hok key q ⟨key,⟨#[]⟩,q,false⟩ rfl rfl;obtain⟨p,hp⟩:∃ p,p=atE es ⟨key,⟨#[]⟩,q,false⟩:=⟨_,rfl⟩;have hpl:p≤es.length:=by rw[hp];exact zlV _ _
 obtain⟨h0,hh0⟩:∃ h0,h0=hasKS es ⟨key,⟨#[]⟩,q,false⟩:=⟨_,rfl⟩;rw[← hp] at RES;have HP:Hid (∀ u w',RdE w' u es→Calls Tryz.prog 91 #[u,.string key,.int .i64 q] w' fun e w''=>e=.returned (.tuple #[.int .i64 (p:Nat),.bool h0])∧Below w'.heap.size w' w''):=fun u w' h=>by rw[hp,hh0];exact zkO u es key q w' h hok
 have RES2:Hid (seenL es key q=if p<es.length∧(nth es p).key=key then some (nth es p) else none):=RES;clear hp hh0 RES;by_cases hpn:p<es.length
 ·have hpe:((p:Int)==(es.length:Int))=false:=by simp;omega
  obtain⟨y,hy⟩:∃ y,y=nth es p:=⟨_,rfl⟩;have KB:=zbE y.key key;cases hke:kEq y.key key with
  | false =>
   rw[hke] at KB;have RES:Hid (seenL es key q=none):=by
    unfold Hid;rw[RES2.out,if_neg];rintro ⟨_,h⟩;rw[← hy] at h;simp[kEq,h] at hke
   go_enter Tryz.func49,Tryz.ntmps49
   go_wp2_with fail
   refine(HP.out _ _ hr2).mono ?_;rintro e w2 ⟨rfl,hb2⟩;obtain⟨z0,z1,z2,z3,f0,f1,f2,f3⟩:=(hz.below hb2).facts;have bz:=hz1.trans (hb2.mono (by simp));obtain⟨b,off,rfl,hc⟩:=(hr2.below hb2).at rfl p hpn;rw[← hy] at hc;obtain⟨c0,c1,c2,c3⟩:=hc;clear hz hb2 hz1 hy hr2;go_wp2;exact bodyPost_ret (v:=.tuple #[.agg #[.string ⟨#[]⟩,.string ⟨#[]⟩,.int .i64 0,.bool false],.bool false]) (by simp[results,Tryz.results49,go_sem,z0,z1,z2,z3]) rfl (zde RES.out (zbv bz (nR _) _ _ _ _ _ _ _ _))
  | true =>
   rw[hke] at KB;have RES:Hid (seenL es key q=some y):=by
    unfold Hid;rw[RES2.out,if_pos ⟨hpn,by rw[← hy];unfold kEq at hke;exact of_decide_eq_true hke⟩,← hy]
   go_enter Tryz.func49,Tryz.ntmps49
   go_wp2_with fail
   refine(HP.out _ _ hr2).mono ?_;rintro e w2 ⟨rfl,hb2⟩;obtain⟨z0,z1,z2,z3,f0,f1,f2,f3⟩:=(hz.below hb2).facts;have bz:=hz1.trans (hb2.mono (by simp));obtain⟨b,off,rfl,hc⟩:=(hr2.below hb2).at rfl p hpn;rw[← hy] at hc;obtain⟨c0,c1,c2,c3⟩:=hc;clear hz hb2 hz1 hy hr2;go_wp2;exact bodyPost_ret (v:=.tuple #[.agg #[.string y.key,.string y.val,.int .i64 y.seq,.bool y.gone],.bool true]) (by simp[results,Tryz.results49,go_sem,z0,z1,z2,z3]) rfl (ze0 RES.out (zbv bz (nR _) _ _ _ _ _ _ _ _))
 ·have hpe:((p:Int)==(es.length:Int))=true:=by simp;omega
  have RES:Hid (seenL es key q=none):=by unfold Hid;rw[RES2.out,if_neg (fun h=>hpn h.1)]
  go_enter Tryz.func49,Tryz.ntmps49
  go_wp2_with fail
  refine(HP.out _ _ hr2).mono ?_;rintro e w2 ⟨rfl,hb2⟩;obtain⟨z0,z1,z2,z3,f0,f1,f2,f3⟩:=(hz.below hb2).facts;have bz:=hz1.trans (hb2.mono (by simp));clear hz hb2 hz1 hr2;go_wp2;exact bodyPost_ret (v:=.tuple #[.agg #[.string ⟨#[]⟩,.string ⟨#[]⟩,.int .i64 0,.bool false],.bool false]) (by simp[results,Tryz.results49,go_sem,z0,z1,z2,z3]) rfl (zde RES.out (zbv bz (nR _) _ _ _ _ _ _ _ _))
open Go.RowKit
theorem zh3{w:World}{b:Nat}{x:Ent}(h:EntAt w b 0 x):RdE w (.slice (some ⟨b,0,none⟩) 1 1) [x] :=
 ⟨_,1,rfl,nR _,by unfold maxLen;omega,(fun h=>by cases h),.inr ⟨b,0,rfl,fun i hi=>by
  have:i=0:=by simpa using hi
  subst this;exact h⟩⟩
theorem znP{w w':World}{B g:Nat}{v:Value}{es:List Ent}(h:OwnE w B v es)(hg:w.grownBy w' (some g))(hB:g<B):OwnE w' B v es :=
 zl h hg (fun k hk e=>by have:=(oL h k hk).1;simp at e;omega)
theorem Cur.grew{w0 w w':World}{g B:Nat}{v u:Value}{bs:List UInt8}{p:Nat}{es:List Ent}(h:Cur w0 w g v bs p)(ho:OwnE w B u es)(hB:g<B)(hg:w.grownBy w' u.ownBlock):Cur w0 w' g v bs p :=
 h.block (hg.block g h.ltE (fun e=>by have:=(oL ho g e.symm).1;omega)) (h.bel.grown hg h.bel.size (fun k hk=>by have:=(oL ho k hk).1;have:=h.ge;omega))
theorem zdM{chk:Bool}{last:ByteArray}{bs:List UInt8}{y:Ent}{k:Nat}(h:rdEnt chk last bs=some (y,k)):y.key.size≤last.size+3000∧y.val.size≤3000∧0≤y.seq∧y.seq≤1099511627776:=by
 obtain⟨a,ha⟩:∃ a,rdNum bs=a:=⟨_,rfl⟩;obtain⟨t,ht⟩:∃ t,z6 (bs.drop a.2)=t:=⟨_,rfl⟩;obtain⟨s,hs⟩:∃ s,rdNum (bs.drop (a.2+t.2))=s:=⟨_,rfl⟩;obtain⟨v,hv⟩:∃ v,z6 (bs.drop (a.2+t.2+s.2))=v:=⟨_,rfl⟩;rw[zcr chk last bs a t s v ha ht hs hv] at h;have h1:=zcu (bs.drop a.2);rw[ht] at h1;have h2:=(zaP (bs.drop (a.2+t.2))).2.1;rw[hs] at h2;have h3:=zcu (bs.drop (a.2+t.2+s.2));rw[hv] at h3;unfold zal at h;split at h
 ·cases h
 ·split at h
  ·cases h
  ·split at h
   ·cases h
   ·obtain⟨hy,_⟩:=Prod.mk.inj (Option.some.inj h);subst hy;refine⟨?_,?_,by simp only;omega,by simp only;omega⟩
    ·show (last.data.toList.take a.1++t.1).toArray.size≤_;have:=zH last;simp only[List.size_toArray,lA,List.length_take];omega
    ·show v.1.toArray.size≤_;simpa using h3
theorem zfm{chk:Bool}{last:ByteArray}{bs:List UInt8}{y:Ent}{k:Nat}(h:rdEnt chk last bs=some (y,k))(hl:last.size≤1000000):Fits y:=by
 have:=zdM h;exact⟨by omega,by omega,by omega,by omega⟩
theorem zou{chk:Bool}{bs:List UInt8}{n p:Nat}{acc:List Ent}{l l':ByteArray}(h:acc.length % 8=0∨n=0):rdEs chk bs n p acc l=rdEs chk bs n p acc l':=by
 cases n with
 | zero=>rfl
 | succ n =>
  have h8:acc.length % 8=0:=by omega
  rw[rdEs,rdEs];unfold ahead;rw[if_pos h8,if_pos h8]
theorem ahead_in{i:Nat}{last:ByteArray}(h:i % 8=0→last=⟨#[]⟩):ahead i last=last:=by
 unfold ahead;split
 ·rename_i h8;exact(h h8).symm
 ·rfl
theorem zin{es:List Ent}{x:Ent}(h:∀ y∈es,Fits y)(hx:Fits x):∀ y∈es++[x],Fits y:=by
 intro y hy;rcases List.mem_append.1 hy with hy | hy
 ·exact h y hy
 ·rw[List.mem_singleton.1 hy];exact hx
def EntsPost(w0 w:World)(g:Nat)(v:Value)(bs:List UInt8)(n:Nat)(res:Option (List Ent×Nat))(e:Ending)(w':World):Prop :=
 ∃ (u:Value) (es:List Ent) (p':Nat),e=.returned u∧OwnE w' w.heap.size u es∧Cur w0 w' g v bs p'∧w.heap.size≤w'.heap.size∧(∀ x∈es,Fits x)∧es.length≤n∧((es.length<n∧res=none)∨(es.length=n∧res=some (es,p')))
theorem zkP(w0 w:World)(g:Nat)(v:Value)(bs:List UInt8)(p:Nat)(n:Nat)(h:Cur w0 w g v bs p)(hn:n≤300) :
 Calls Tryz.prog 154 #[.pointer (some ⟨g,0,none⟩),.int .i64 (n:Int)] w fun e w'=>EntsPost w0 w g v bs n (rdEs true bs n p [] ⟨#[]⟩) e w':=by
 obtain⟨res,hres⟩:∃ res,res=rdEs true bs n p [] ⟨#[]⟩:=⟨_,rfl⟩;rw[← hres];have HR:Hid (res=rdEs true bs n p [] ⟨#[]⟩):=hres;clear hres;have hgl:=h.ltE;have hc0:=h.below (ze w (.cells #[] 40));have ho0:=zX w;clear h;go_enter Tryz.func154,Tryz.ntmps154
 go_wp2;go_step3
 go_wp2;go_step3
 go_wp2;go_loopg [5,6] 40 (fun gg u i wr=>∃ (fr q:Nat) (es:List Ent),fr+8*gg=320∧i=.int .i64 fr∧fr≤n+7∧fr % 8=0∧Hid (es.length=min fr n)∧Hid (∃ l,res=rdEs true bs (n-es.length) q es l)∧Hid (∀ x∈es,Fits x)∧OwnE wr w.heap.size u es∧Cur w0 wr g v bs q∧w.heap.size≤wr.heap.size)
 case atStart=>exact⟨0,p,[],by omega,rfl,by omega,by omega,by unfold Hid;simp,⟨_,HR.out⟩,(fun x hx=>by cases hx),ho0,hc0,by simp⟩
 case round =>
  obtain⟨fr,q,es,hgk,rfl,hfr,hf8,HL,HE,HF,ho,hc,hsz⟩:=hrel;clear ho0 hc0 HR;by_cases hlt:fr<n
  ·cases gk with
   | zero=>exfalso;omega
   | succ gg =>
    have HE0:Hid (res=rdEs true bs (n-es.length) q es ⟨#[]⟩):=by
     obtain⟨l,hl⟩:=HE.out;have h1:=HL.out;rw[hl];exact zou (.inl (by omega))
    have hel:Hid (es.length=fr):=(by have h1:=HL.out;unfold Hid;omega);clear HE HL;go_wp2;all_goals
     go_loopg [5,7,20] 8 (fun g2 u l i wr=>∃ (j q:Nat) (es:List Ent) (last:ByteArray),j+g2=8∧i=.int .i64 j∧fr+j≤n∧l=.string last∧last.size≤3000*j∧Hid (j=0→last=⟨#[]⟩)∧Hid (es.length=fr+j)∧Hid (res=rdEs true bs (n-es.length) q es last)∧Hid (∀ x∈es,Fits x)∧OwnE wr w.heap.size u es∧Cur w0 wr g v bs q∧w.heap.size≤wr.heap.size)
     case atStart=>exact⟨0,q,es,⟨#[]⟩,by omega,rfl,by omega,rfl,Nat.zero_le _,(fun _=>rfl),hel,HE0,HF,ho,hc,hsz⟩
     case round =>
      obtain⟨j,q2,es2,last,hj8,rfl,hjn,rfl,hls,HL0,HLN,HE2,HF2,ho2,hc2,hsz2⟩:=hrel;clear ho hc hsz HE0 hel HF;by_cases hj:j<8∧fr+j<n
      ·obtain⟨hj1,hj2⟩:=hj;have hj3:(j:Int)<(n:Int)-(fr:Int):=(by omega);cases gk with
       | zero=>exfalso;omega
       | succ g2 =>
        have HAH:Hid (ahead es2.length last=last):=ahead_in (fun h8=>HL0.out (by have:=HLN.out;omega));obtain⟨r,hr⟩:∃ r,r=rdEnt true last (bs.drop q2):=⟨_,rfl⟩;have HRR:Hid (rdEnt true (ahead es2.length last) (bs.drop q2)=r):=(by rw[HAH.out,hr];rfl);have HFX:Hid (∀ y k,r=some (y,k)→Fits y∧y.key.size≤3000*(j+1)):=fun y k h=>by
         rw[hr] at h;have:=zdM h;exact⟨zfm h (by omega),by omega⟩
        have HNN:Hid (n-es2.length=(n-(es2.length+1))+1):=(by have:=HLN.out;unfold Hid;omega);have HCALL:Hid (Calls Tryz.prog 163 #[.pointer (some ⟨g,0,none⟩),.string last] wr fun e w'=>zhV w0 wr g v bs q2 r e w'):=(by rw[hr];exact zf1 w0 wr g v bs q2 last hc2 (by omega));clear hr;go_wp2_with fail
        refine HCALL.out.mono ?_;rintro e w3 ⟨p3,x,rfl,hc3,hg3,hx3⟩;have HX3:Hid (∀ y k,r=some (y,k)→x=y∧p3=q2+k):=hx3;clear hx3 HCALL;have ho3:=znP ho2 hg3 hgl;have hs3:w.heap.size≤w3.heap.size:=nT hsz2 hg3.size;clear ho2 hc2 hg3 hsz2;have hx4:=zau w3 x 40;have ho4:=ho3.below (ze _ (.cells #[.string x.key,.string x.val,.int .i64 x.seq,.bool x.gone] 40));have hc4:=hc3.below (ze _ (.cells #[.string x.key,.string x.val,.int .i64 x.seq,.bool x.gone] 40));have hs4:w.heap.size≤(w3.alloc (.cells #[.string x.key,.string x.val,.int .i64 x.seq,.bool x.gone] 40)).heap.size:=(by simp;omega);have ho3x:∀ b,(_:Value).ownBlock=some b→b<w3.heap.size:=ziy ho3;clear ho3 hc3;obtain⟨c0,c1,c2,c3⟩:=id hx4;simp only[Nat.zero_add] at c1 c2 c3;cases r with
        | none =>
         have HRES:Hid (res=none):=by
          unfold Hid;rw[HE2.out,HNN.out];exact ziE HRR.out
         have HLEN:Hid (es2.length<n):=(by have:=HLN.out;unfold Hid;omega);clear HE2 HNN HRR HFX HX3;go_wp2;try rw[Exit.noGoto_ret]
         go_ret;exact⟨_,es2,p3,rfl,ho4,hc4,hs4,HF2.out,Nat.le_of_lt HLEN.out,.inl ⟨HLEN.out,HRES.out⟩⟩
        | some yk =>
         obtain⟨y,k⟩:=yk;obtain⟨rfl,hp3⟩:=HX3.out y k rfl;have HRES:Hid (res=rdEs true bs (n-(es2.length+1)) p3 (es2++[x]) x.key):=by
          unfold Hid;rw[HE2.out,HNN.out,zgS HRR.out,hp3]
         obtain⟨hfx,hkx⟩:=HFX.out x k rfl;have HF4:Hid (∀ z∈es2++[x],Fits z):=zin HF2.out hfx;have hel:Hid (es2.length≤300):=(by have:=HLN.out;unfold Hid;omega);clear HE2 HNN HRR HFX HX3 hp3 HF2 hfx;have hx5:=zau (w3.alloc (.cells #[.string x.key,.string x.val,.int .i64 x.seq,.bool x.gone] 40)) x 40;rw[show (w3.alloc (.cells #[.string x.key,.string x.val,.int .i64 x.seq,.bool x.gone] 40)).heap.size=w3.heap.size+1 by simp] at hx5;have ho5:=ho4.below (ze _ (.cells #[.string x.key,.string x.val,.int .i64 x.seq,.bool x.gone] 40));have hc5:=hc4.below (ze _ (.cells #[.string x.key,.string x.val,.int .i64 x.seq,.bool x.gone] 40));have hy5:=hx4.below (ze _ (.cells #[.string x.key,.string x.val,.int .i64 x.seq,.bool x.gone] 40));go_wp2_with (at_builtin;(refine zp rfl _ _ rfl w.heap.size _ _ es2 [x] rfl rfl ho5 (zh3 hx5) (by have:=hel.out;simp;omega) (by simp;omega) ?_))
         intro v6 w6 ho6 hg6;have hc6:=hc5.grew ho5 hgl hg6;have hs6:w.heap.size≤w6.heap.size:=nT (by simp;omega) hg6.size;have hy6:EntAt w6 w3.heap.size 0 x:=hy5.of_block (hg6.block _ hy5.lt (fun e=>by have h2:=ho3x w3.heap.size e.symm;omega));clear ho5 hc5 hy5 ho4 hc4 hx4 hx5 hg6 c0 c1 c2 c3;obtain⟨d0,d1,d2,d3⟩:=id hy6;simp only[Nat.zero_add] at d1 d2 d3;go_wp2;go_roundg g2
         case rel=>exact⟨j+1,p3,es2++[x],x.key,by omega,by go_num,by omega,rfl,hkx,(fun h=>by omega),by have:=HLN.out;unfold Hid;simp;omega,by unfold Hid;rw[HRES.out];simp,HF4,ho6,hc6,hs6⟩
         case measure=>omega
      ·skip
       have HEND:Hid (es2.length=min (fr+8) n∧fr+8≤n+7):=(by have:=HLN.out;unfold Hid;omega);have hjn3:¬ (j:Int)<8∨¬ (j:Int)<(n:Int)-(fr:Int):=(by omega);first
        | (have hx:¬ (j:Int)<8:=by omega)
        | (have hx:¬ (j:Int)<(n:Int)-(fr:Int):=by omega)
       clear hjn3 hj;go_wp2;go_roundg gg
       case rel=>exact⟨fr+8,q2,es2,by omega,by go_num,HEND.out.2,by omega,HEND.out.1,⟨_,HE2.out⟩,HF2,ho2,hc2,hsz2⟩
       case measure=>omega
  ·skip
   have HZ:Hid (es.length=n∧res=some (es,q)):=by
    obtain⟨l,hl⟩:=HE.out;have h1:=HL.out;have h2:es.length=n:=(by omega);rw[h2,Nat.sub_self,rdEs] at hl;exact⟨h2,hl⟩
   clear HL HE;go_wp2;try rw[Exit.noGoto_ret]
   go_ret;exact⟨_,es,q,rfl,ho,hc,hsz,HF.out,Nat.le_of_eq HZ.out.1,.inr HZ.out⟩
def zbW(w:World)(F:List Ent×Bool)(e:Ending)(w':World):Prop :=
 ∃ u,e=.returned (.tuple #[u,.bool F.2])∧OwnE w' w.heap.size u F.1∧Below w.heap.size w w'
theorem zE{w wr:World}{B:Nat}{F:List Ent×Bool}{u:Value}(h:F=([],false))(ho:OwnE wr B u [])(hB:w.heap.size≤B)(hb:Below w.heap.size w wr):zbW w F (.returned (.tuple #[u,.bool false])) wr:=by
 subst h;exact⟨u,rfl,ho.mono hB,hb⟩
theorem zdf{w wr:World}{B:Nat}{F:List Ent×Bool}{u:Value}{es:List Ent}(h:F=(es,true))(ho:OwnE wr B u es)(hB:w.heap.size≤B)(hb:Below w.heap.size w wr):zbW w F (.returned (.tuple #[u,.bool true])) wr:=by
 subst h;exact⟨u,rfl,ho.mono hB,hb⟩
theorem zL(w:World):OwnE (w.alloc (.cells #[] 40)) w.heap.size (.slice (some ⟨w.heap.size,0,none⟩) 0 0) []:=zX w
theorem zfM(v:Value)(bs:List UInt8)(w:World)(hr:Rd w v bs) :
 Calls Tryz.prog 133 #[v] w fun e w'=>zbW w (unpI bs) e w':=by
 obtain⟨a,cap,hv,_⟩:=id hr;subst hv;obtain⟨F,hF⟩:∃ F,F=unpI bs:=⟨_,rfl⟩;rw[← hF];have HF0:Hid (F=unpI bs):=hF;clear hF;obtain⟨R,hR⟩:∃ R,rdNum bs=R:=⟨_,rfl⟩;have hcn:=cur_new hr;have HN:=zdL w _ _ _ bs 0 hcn;rw[List.drop_zero,hR] at HN;have hRl:=zaP bs;rw[hR] at hRl;obtain⟨n,k⟩:=R;have HU:Hid (unpC true bs=if k=0∨300<n then none else rdEs true bs n k [] ⟨#[]⟩):=by unfold Hid unpC;rw[hR]
 have HNN:Hid (Calls _ _ _ _ _):=HN;clear HN hR hcn;simp only at hRl;go_enter Tryz.func133,Tryz.ntmps133
 go_wp2_with fail
 refine HNN.out.mono ?_;rintro e w1 ⟨p1,rfl,hc1,hp1,hg1⟩;clear HNN;by_cases q0:k=0
 ·have hd:decide ((n,k).2≠0)=false:=by simp[q0]
  rw[hd];have RES:Hid (F=([],false)):=by unfold Hid;rw[HF0.out];unfold unpI;rw[HU.out,if_pos (.inl q0)];rfl
  have hb1:=hc1.bel;clear hp1 q0 hd hc1 hg1;go_wp2;go_ret2
  exact zE RES.out (zL w1) hb1.size (hb1.alloc hb1.size _)
 have hd:decide ((n,k).2≠0)=true:=by simp[q0]
 rw[hd];obtain rfl:p1=0+k:=hp1 q0;rw[Nat.zero_add] at hc1;clear hp1 hd;by_cases q1:300<n
 ·have RES:Hid (F=([],false)):=by unfold Hid;rw[HF0.out];unfold unpI;rw[HU.out,if_pos (.inr q1)];rfl
  have hb1:=hc1.bel;clear q0 hc1 hg1;go_wp2;go_ret2
  exact zE RES.out (zL w1) hb1.size (hb1.alloc hb1.size _)
 have HU2:Hid (unpC true bs=rdEs true bs n k [] ⟨#[]⟩):=by unfold Hid;rw[HU.out,if_neg (by omega)]
 clear HU q0;have hs1:=hc1.bel.size;go_wp2_with fail
 refine(zkP w _ _ _ bs k n hc1 (by omega)).mono ?_;rintro e w2 ⟨u,es,p2,rfl,ho2,hc2,hs2,hfit,hel,hres⟩;have HFIT:Hid (∀ x∈es,Fits x):=hfit;have HRES:Hid ((es.length<n∧rdEs true bs n k [] ⟨#[]⟩=none)∨(es.length=n∧rdEs true bs n k [] ⟨#[]⟩=some (es,p2))):=hres;obtain⟨aU,cU,hvU,hU1,hU2,_⟩:=id ho2.rd;subst hvU;unfold maxLen at hU2;clear hfit hres hc1 hg1;have b2:=hc2.bel;by_cases q2:es.length<n
 ·have RES:Hid (F=([],false)):=by
   have:rdEs true bs n k [] ⟨#[]⟩=none:=by
    rcases HRES.out with h | h
    ·exact h.2
    ·omega
   unfold Hid;rw[HF0.out];unfold unpI;rw[HU2.out,this];rfl
  clear hc2;go_wp2;go_ret2
  exact zE RES.out (zL w2) b2.size (b2.alloc b2.size _)
 have HSOME:Hid (unpC true bs=some (es,p2)):=by
  unfold Hid;rw[HU2.out];rcases HRES.out with h | h
  ·omega
  ·exact h.2
 have hple:=hc2.le;clear HRES HU2;go_wp2_with fail
 refine(zfX w _ _ _ bs p2 hc2).mono ?_;rintro e w3 ⟨rfl,q3,rfl⟩;have ho3:=ho2.drewN q3;have b3:=below_drewN b2 q3;clear ho2 b2 hc2;generalize w2.drewN q3=W3 at ho3 b3 ⊢;by_cases q4:p2<bs.length
 ·have RES:Hid (F=([],false)):=by
   unfold Hid;rw[HF0.out];unfold unpI;rw[HSOME.out];unfold finI;simp only;rw[if_neg (by omega)]
  have q4i:0<(bs.length:Int)-(p2:Int):=by omega
  go_wp2;go_ret2
  exact zE RES.out (zL W3) b3.size (b3.alloc b3.size _)
 have q4i:¬ 0<(bs.length:Int)-(p2:Int):=by omega
 have HEQ:Hid (p2=bs.length):=by unfold Hid;omega
 cases hok:okL es with
 | false =>
  have HOK:Hid (okL es=false):=hok;have RES:Hid (F=([],false)):=by
   unfold Hid;rw[HF0.out];unfold unpI;rw[HSOME.out];unfold finI;simp only;rw[if_neg (by rw[hok];simp)]
  clear hok;go_wp2_with fail
  refine(zdo _ es _ ho3.rd HFIT.out HOK.out).mono ?_;rintro e w4 ⟨rfl,hb4⟩;have b4:=b3.trans (hb4.mono b3.size);go_wp2;go_ret2
  exact zE RES.out (zL w4) b4.size (b4.alloc b4.size _)
 | true =>
  have HOK:Hid (okL es=true):=hok;have RES:Hid (F=(es,true)):=by
   unfold Hid;rw[HF0.out];unfold unpI;rw[HSOME.out];unfold finI;simp only;rw[if_pos ⟨HEQ.out,hok⟩]
  clear hok;go_wp2_with fail
  refine(zcj _ es _ ho3.rd HFIT.out HOK.out).mono ?_;rintro e w4 ⟨rfl,hb4⟩;have b4:=b3.trans (hb4.mono b3.size);have ho4:=ho3.below hb4;go_wp2;go_ret2
  exact zdf RES.out ho4 hs1 b4
end Go.Proofs.YtjlnchhgkfnldaaGreat
