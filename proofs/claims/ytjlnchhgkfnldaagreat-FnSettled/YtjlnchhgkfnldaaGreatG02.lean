import Derived.Test.YtjlnchhgkfnldaaGreatG01
import Derived.Deep.RegionHeld3
namespace Go.Proofs.YtjlnchhgkfnldaaGreat
set_option maxHeartbeats 16000000
set_option maxRecDepth 100000
open Go.RowKit
theorem tkA(i d:Nat){P:Program}{ops:Array Oper}{Q:Exit→Act→World→Prop}{md:Region.Mode}{S:World→Prop}{oi:Oper}{v:Value}{fuel:Nat}{listed:Array Bool}{a:Act}{w:World}(hS:S w)
 (h:wpAnyH P md ops (NoPanic Q) S fuel (listed.setIfInBounds i true) (a.put (some d) v) w) (hi:ops[i]? = some oi:=by rfl) (hd:oi.dst=some d:=by rfl)
 (hs:Region.noSelect ops=true:=by kernel_rfl) (hf:Region.free md ops listed i=true:=by kernel_rfl) (hr:(Region.ready md ops listed).contains i=true:=by kernel_rfl) (hw:Region.wanted oi (yielded ops a.tmps)=true:=by kernel_rfl)
 (hy:∀ w,S w→(execOp a.eval oi).run P w=.ok (.value v) w:=by intro w hS;(try dsimp only[EntAt,Nat.zero_add] at hS);go_simp;(try with_reducible rfl)):wpAnyH P md ops (NoPanic Q) S (fuel+1) listed a w :=
 takeH hi hd hs hf hr (fun _ _ _ h=>h) (Or.inl ⟨hw,hy⟩) hS h
theorem kA(i d:Nat){P:Program}{ops:Array Oper}{Q:Exit→Act→World→Prop}{md:Region.Mode}{S:World→Prop}{oi:Oper}{v:Value}{fuel:Nat}{listed:Array Bool}{a a':Act}{w:World}(hS:S w)(h:wpAnyH P md ops (NoPanic Q) S fuel (listed.setIfInBounds i true) a' w)(hi:ops[i]? = some oi:=by rfl)(hd:oi.dst=some d:=by rfl)(hs:Region.noSelect ops=true:=by kernel_rfl)(hf:Region.free md ops listed i=true:=by kernel_rfl)(hr:(Region.ready md ops listed).contains i=true:=by kernel_rfl)(hw:Region.wanted oi (yielded ops a.tmps)=true:=by kernel_rfl)(hy:∀ w,S w→(execOp a.eval oi).run P w=.ok (.value v) w:=by intro w hS;(try dsimp only[EntAt,Nat.zero_add] at hS);go_simp;(try with_reducible rfl))(ha:a.put (some d) v=a':=by (try simp only[Act.put,sA,sZ,sS]);(try rfl)):wpAnyH P md ops (NoPanic Q) S (fuel+1) listed a w:=takeH hi hd hs hf hr (fun _ _ _ h=>h) (Or.inl ⟨hw,hy⟩) hS (ha ▸ h)
theorem zgK(a:Ent)(w:World)(hf:Fits a)(h:okE a=true) :
 Calls Tryz.prog 122 #[.agg #[.string a.key,.string a.val,.int .i64 a.seq,.bool a.gone]] w fun e w'=>e=.returned (.bool true)∧Below w.heap.size w w':=by
 have:=zeq a w hf;rwa [h] at this
theorem zm5(a:Ent)(w:World)(hf:Fits a)(h:okE a=false) :
 Calls Tryz.prog 122 #[.agg #[.string a.key,.string a.val,.int .i64 a.seq,.bool a.gone]] w fun e w'=>e=.returned (.bool false)∧Below w.heap.size w w':=by
 have:=zeq a w hf;rwa [h] at this
theorem za4(v:Value)(es:List Ent)(w:World)(hr:RdE w v es)(hf:∀ e∈es,Fits e) :
 Calls Tryz.prog 89 #[v] w fun e w'=>e=.returned (.bool (okL es))∧Below w.heap.size w w':=by
 obtain⟨a,cap,hv,hl,hm,_⟩:=id hr;unfold maxLen at hm;subst hv;have HF:Hid (∀ e∈es,Fits e):=hf;clear hf;by_cases hbig:300<es.length
 ·go_enter Tryz.func89,Tryz.ntmps89
  go_wp2;go_ret;exact⟨zN (by simp[okL];omega),Below.refl _ _⟩
 ·go_enter Tryz.func89,Tryz.ntmps89
  go_wp2;go_loopw [3] (fun i wr=>∃ k:Nat,k≤es.length∧i=.int .i64 k∧Hid (okTo es k=true)∧Below w.heap.size w wr) (fun i _=>es.length-(intOf i).toNat)
  case atStart=>exact⟨0,Nat.zero_le _,rfl,rfl,Below.refl _ _⟩
  case round =>
   obtain⟨k,hk,rfl,HO,hb⟩:=hrel;by_cases hlt:k<es.length
   ·obtain⟨b,off,rfl,hc⟩:=hr.at rfl k hlt;have hc2:=hc.below hb;have hlt2:=hc2.lt;obtain⟨c0,c1,c2,c3⟩:=hc2;have hfk:=HF.out _ (List.getElem_mem hlt);rw[← zU hlt] at hfk;obtain⟨x,hx⟩:∃ x,x=nth es k:=⟨_,rfl⟩;rw[← hx] at c0 c1 c2 c3 hfk;have HX:Hid (x=nth es k):=hx;clear hx hc;cases hok:okE x with
    | false =>
     have RES:Hid (okL es=false):=zeC hlt (by unfold okAt;rw[← HX.out,hok];rfl);go_wp2_with fail
     refine brg (S:=fun w'=>EntAt w' b (off+k*4) x) ⟨c0,c1,c2,c3⟩ (fun hH=>?_);refine kA 0 13 hH ?_;refine kA 1 14 hH ?_;refine kA 2 15 hH ?_;refine kA 3 16 hH ?_;refine rdy 4 (fun K hK=>?_);go_simp;refine(zm5 x _ hfk hok).mono ?_;rintro e w' ⟨rfl,hb'⟩;refine hK.out _ _ (hH.below hb') (fun hA=>?_);clear hK K;try simp only[Act.put,sA,sZ,sS]
     refine kA 5 18 hA ?_;refine kA 6 19 hA ?_;refine kS 7 20 hA ?_;refine kS 8 21 hA ?_;refine kS 9 22 hA ?_;refine kS 10 23 hA ?_;refine kS 11 24 hA ?_;refine kS 12 25 hA ?_;refine kS 13 26 hA ?_;refine kS 14 27 hA ?_;refine kS 15 28 hA ?_;refine kS 16 29 hA ?_;refine kS 17 30 hA ?_;refine kS 18 31 hA ?_;refine kS 19 32 hA ?_;refine kS 20 33 hA ?_;refine kS 21 34 hA ?_;refine kA 22 35 hA ?_;refine dne ?_;go_wp2;go_ret;exact⟨zN RES.out.symm,hb.drew.trans (hb'.mono hb.size)⟩
    | true =>
     by_cases hk0:k=0
     ·skip
      have HO2:Hid (okTo es (k+1)=true):=by
       show _=_;rw[zeQ,HO.out];unfold okAt;rw[← HX.out,hok];simp[hk0]
      have hkn:decide (0<k)=false:=(by simpa using hk0);clear hk0;go_wp2_with fail
      refine brg (S:=fun w'=>EntAt w' b (off+k*4) x) ⟨c0,c1,c2,c3⟩ (fun hH=>?_);refine kA 0 13 hH ?_;refine kA 1 14 hH ?_;refine kA 2 15 hH ?_;refine kA 3 16 hH ?_;refine rdy 4 (fun K hK=>?_);go_simp;refine(zgK x _ hfk hok).mono ?_;rintro e w' ⟨rfl,hb'⟩;refine hK.out _ _ (hH.below hb') (fun hA=>?_);clear hK K;try simp only[Act.put,sA,sZ,sS]
      refine kA 5 18 hA ?_;refine kA 6 19 hA ?_;refine kA 7 20 hA ?_;refine kA 8 21 hA ?_;refine kA 9 22 hA ?_;refine kS 10 23 hA ?_;refine kS 11 24 hA ?_;refine kS 12 25 hA ?_;refine kS 13 26 hA ?_;refine kS 14 27 hA ?_;refine kS 15 28 hA ?_;refine kS 16 29 hA ?_;refine kS 17 30 hA ?_;refine kS 18 31 hA ?_;refine kS 19 32 hA ?_;refine kS 20 33 hA ?_;refine kA 21 34 hA ?_;refine kA 22 35 hA ?_;refine dne ?_;go_wp2;go_roundw
      case rel=>exact⟨k+1,by omega,by go_num,HO2,hb.drew.trans (hb'.mono hb.size)⟩
      case measure=>simp[intOf];omega
     ·skip
      obtain⟨b2,off2,ha2,hd⟩:=hr.at rfl (k-1) (by omega);simp only[Option.some.injEq,Addr.mk.injEq] at ha2;obtain⟨rfl,rfl,_⟩:=ha2;have hd2:=hd.below hb;obtain⟨d0,d1,d2,d3⟩:=hd2;obtain⟨y,hy⟩:∃ y,y=nth es (k-1):=⟨_,rfl⟩;rw[← hy] at d0 d1 d2 d3;have HY:Hid (y=nth es (k-1)):=hy;clear hy hd;obtain⟨j,hj⟩:∃ j,j=k-1:=⟨k-1,rfl⟩;rw[← hj] at d0 d1 d2 d3;have HJ:Hid (j=k-1):=hj;have hkj:(k:Int)-1=(j:Int):=(by omega);have hkp:decide (0<k)=true:=(by simp;omega);have hbn:b<wr.drew.heap.size:=hlt2;have hj1:(j:Int)<(es.length:Int):=(by omega);have hj0:(0:Int)≤(j:Int):=(by omega);have hjn:j<es.length:=(by omega);have hwr:IntKind.i64.wrap (j:Int)=(j:Int):=(by rw[IntKind.wrap_i64];omega);have hk1:(k:Int)<(es.length:Int):=(by omega);clear hj hk0;go_wp2_with fail
      go_region_held3 (fun w'=>w'.cell? ⟨b,off+k*4,none⟩=some (.string x.key)∧w'.cell? ⟨b,off+k*4+1,none⟩=some (.string x.val)∧w'.cell? ⟨b,off+k*4+2,none⟩=some (.int .i64 x.seq)∧w'.cell? ⟨b,off+k*4+3,none⟩=some (.bool x.gone) ∧
       w'.cell? ⟨b,off+j*4,none⟩=some (.string y.key)∧w'.cell? ⟨b,off+j*4+1,none⟩=some (.string y.val)∧w'.cell? ⟨b,off+j*4+2,none⟩=some (.int .i64 y.seq)∧w'.cell? ⟨b,off+j*4+3,none⟩=some (.bool y.gone)) (go_keep)
       (first
        | (go_at_call 122;refine(zgK x _ hfk hok).mono ?_;rintro e w1 ⟨rfl,hb1⟩;have hcc1:∀ o,w1.cell? ⟨b,o,none⟩=wr.cell? ⟨b,o,none⟩:=fun o=>(bcell hb1).1 b o (by simpa using hlt2);have hz1:b<w1.heap.size:=by have:=hb1.size;simp at this;omega)
        | (go_at_call 116;refine(zbh y x _).mono ?_;rintro e w2 ⟨rfl,hb2⟩;have hcc2:∀ o,w2.cell? ⟨b,o,none⟩=wr.cell? ⟨b,o,none⟩:=fun o=>((bcell hb2).1 b o hz1).trans (hcc1 o)))
      have bz:=(hb.drew.trans (hb1.mono hb.size)).trans (hb2.mono (by have:=hb.size;have:=hb1.size;simp at this;omega));cases hah:ahd y x with
      | false =>
       have RES:Hid (okL es=false):=zeC hlt (by unfold okAt;rw[← HX.out,← HY.out,hok,hah];simp;omega);go_wp2;go_ret;exact⟨zN RES.out.symm,bz⟩
      | true =>
       have HO2:Hid (okTo es (k+1)=true):=by
        show _=_;rw[zeQ,HO.out];unfold okAt;rw[← HX.out,← HY.out,hok,hah];simp
       go_wp2;go_roundw
       case rel=>exact⟨k+1,by omega,by go_num,HO2,bz⟩
       case measure=>simp[intOf];omega
   ·have hke:k=es.length:=(by omega);subst hke;go_wp2;go_ret;exact⟨zN (by simp[okL,HO.out];omega),hb⟩
open Go.RowKit
def zdZ(w:World)(o:Option Ent)(e:Ending)(w':World):Prop :=
 e=.returned (.tuple #[.agg #[.string (o.getD zeroE).key,.string (o.getD zeroE).val,.int .i64 (o.getD zeroE).seq,.bool (o.getD zeroE).gone],.bool o.isSome])∧Below w.heap.size w w'
theorem ze0{w w':World}{o:Option Ent}{x:Ent}(ho:o=some x)(hb:Below w.heap.size w w'):zdZ w o (.returned (.tuple #[.agg #[.string x.key,.string x.val,.int .i64 x.seq,.bool x.gone],.bool true])) w':=by
 subst ho;exact⟨rfl,hb⟩
theorem zde{w w':World}{o:Option Ent}(ho:o=none)(hb:Below w.heap.size w w'):zdZ w o (.returned (.tuple #[.agg #[.string ⟨#[]⟩,.string ⟨#[]⟩,.int .i64 0,.bool false],.bool false])) w':=by
 subst ho;exact⟨rfl,hb⟩
theorem zhi(v:Value)(es:List Ent)(key:ByteArray)(q:Int)(w:World)(hr:RdE w v es) :
 Calls Tryz.prog 52 #[v,.string key,.int .i64 q] w fun e w'=>zdZ w (seenL es key q) e w':=by
 obtain⟨a,cap,hv,hl,hm,_⟩:=id hr;unfold maxLen at hm;subst hv;go_enter Tryz.func52,Tryz.ntmps52
 go_wp2;go_loop [8] (fun i=>∃ k:Nat,k≤es.length∧i=.int .i64 k∧Hid (∀ j,j<k→seenP key q (nth es j)=false)) (fun i=>es.length-(intOf i).toNat)
 case atStart=>exact⟨0,Nat.zero_le _,rfl,fun j hj=>absurd hj (Nat.not_lt_zero _)⟩
 case round =>
  obtain⟨k,hk,rfl,HO⟩:=hrel;by_cases hlt:k<es.length
  ·obtain⟨b,off,rfl,hc⟩:=hr.at rfl k hlt;have hlt2:=hc.lt;obtain⟨c0,c1,c2,c3⟩:=hc;obtain⟨x,hx⟩:∃ x,x=nth es k:=⟨_,rfl⟩;rw[← hx] at c0 c1 c2 c3;have HX:Hid (x=nth es k):=hx;clear hx;have KB:=zbE x.key key;cases hke:kEq x.key key with
   | false =>
    rw[hke] at KB;have HO2:Hid (∀ j,j<k+1→seenP key q (nth es j)=false):=by
     intro j hj;by_cases hjk:j=k
     ·subst hjk;rw[← HX.out];simp[seenP,hke]
     ·exact HO.out j (by omega)
    go_wp2;go_round
    case rel=>exact⟨k+1,by omega,by go_num,HO2⟩
    case measure=>simp[intOf];omega
   | true =>
    rw[hke] at KB;by_cases hq:x.seq≤q
    ·have RES:Hid (seenL es key q=some x):=by
      show _=_;rw[zfd es key q k hlt HO.out (by rw[← HX.out];simp[seenP,hke,hq]),← HX.out]
     go_wp2;exact bodyPost_ret (v:=.tuple #[.agg #[.string x.key,.string x.val,.int .i64 x.seq,.bool x.gone],.bool true]) (by simp[results,Tryz.results52,go_sem]) rfl (ze0 RES.out (ze _ _))
    ·have HO2:Hid (∀ j,j<k+1→seenP key q (nth es j)=false):=by
      intro j hj;by_cases hjk:j=k
      ·subst hjk;rw[← HX.out];simp[seenP,hq]
      ·exact HO.out j (by omega)
     go_wp2;go_round
     case rel=>exact⟨k+1,by omega,by go_num,HO2⟩
     case measure=>simp[intOf];omega
  ·have hke:k=es.length:=(by omega);subst hke;have RES:Hid (seenL es key q=none):=zhe es key q HO.out;go_wp2;exact bodyPost_ret (v:=.tuple #[.agg #[.string ⟨#[]⟩,.string ⟨#[]⟩,.int .i64 0,.bool false],.bool false]) (by simp[results,Tryz.results52,go_sem]) rfl (zde RES.out (ze _ _))
theorem zml(v:Value)(es:List Ent)(w:World)(hr:RdE w v es)(hf:∀ e∈es,Fits e)(h:okL es=true) :
 Calls Tryz.prog 89 #[v] w fun e w'=>e=.returned (.bool true)∧Below w.heap.size w w':=by
 have:=za4 v es w hr hf;rwa [h] at this
theorem znO(v:Value)(es:List Ent)(w:World)(hr:RdE w v es)(hf:∀ e∈es,Fits e)(h:okL es=false) :
 Calls Tryz.prog 89 #[v] w fun e w'=>e=.returned (.bool false)∧Below w.heap.size w w':=by
 have:=za4 v es w hr hf;rwa [h] at this
def BoxAt(w:World)(b:Nat)(x:Ent):Prop:=EntAt w b 0 x∧∀ o,w.frozen? ⟨b,o,none⟩=false
theorem BoxAt.below{w w':World}{b:Nat}{x:Ent}(h:BoxAt w b x)(hb:Below w.heap.size w w'):BoxAt w' b x :=
 ⟨h.1.below hb,fun o=>((bcell hb).2 b o h.1.lt).trans (h.2 o)⟩
theorem zd4(w:World)(t:TypeId):BoxAt (w.alloc (.cells #[.string ⟨#[]⟩,.string ⟨#[]⟩,.int .i64 0,.bool false] t)) w.heap.size zeroE :=
 ⟨⟨by simp[zeroE],by simp[zeroE],by simp[zeroE],by simp[zeroE]⟩,fun o=>by simp⟩
theorem BoxAt.facts{w:World}{b:Nat}{x:Ent}(h:BoxAt w b x):w.cell? ⟨b,0,none⟩=some (.string x.key)∧w.cell? ⟨b,1,none⟩=some (.string x.val)∧w.cell? ⟨b,2,none⟩=some (.int .i64 x.seq)∧w.cell? ⟨b,3,none⟩=some (.bool x.gone) ∧
 w.frozen? ⟨b,0,none⟩=false∧w.frozen? ⟨b,1,none⟩=false∧w.frozen? ⟨b,2,none⟩=false∧w.frozen? ⟨b,3,none⟩=false:=by
 obtain⟨⟨h0,h1,h2,h3⟩,hf⟩:=h;simp only[Nat.zero_add] at h1 h2 h3;exact⟨h0,h1,h2,h3,hf 0,hf 1,hf 2,hf 3⟩
theorem znU(v:Value)(es:List Ent)(key:ByteArray)(q:Int)(x:Ent)(s:Bool)(w:World)(hr:RdE w v es)(hx:(seenL es key q).getD zeroE=x)(hs:(seenL es key q).isSome=s) :
 Calls Tryz.prog 52 #[v,.string key,.int .i64 q] w fun e w'=>e=.returned (.tuple #[.agg #[.string x.key,.string x.val,.int .i64 x.seq,.bool x.gone],.bool s])∧Below w.heap.size w w':=by
 have:=zhi v es key q w hr;unfold zdZ at this;rwa [hx,hs] at this
theorem zbv{B:Nat}{w0 w:World}(h:Below B w0 w){g:Nat}(hg:B≤g)(a b c d:Value)(i j k l:Nat):Below B w0 ((((w.setCell ⟨g,i,none⟩ a).setCell ⟨g,j,none⟩ b).setCell ⟨g,k,none⟩ c).setCell ⟨g,l,none⟩ d) :=
 (((h.setCell (by exact hg) _).setCell (by exact hg) _).setCell (by exact hg) _).setCell (by exact hg) _
open Go.RowKit
theorem zds(W:World)(x:Ent)(t:TypeId):EntAt (W.alloc (.cells #[.string x.key,.string x.val,.int .i64 x.seq,.bool x.gone] t)) W.heap.size 0 x :=
 ⟨by simp[World.cell?_alloc_at],by simp[World.cell?_alloc_at],by simp[World.cell?_alloc_at],by simp[World.cell?_alloc_at]⟩
theorem zid{es:List Ent}{k i:Nat}(h:i<k)(h2:i<es.length):nth (es.take k) i=nth es i:=by
 rw[zU (by rw[List.length_take];omega),zU h2,List.getElem_take]
theorem zfU{es:List Ent}{k i:Nat}(h:k+i<es.length):nth (es.drop k) i=nth es (k+i):=by
 rw[zU (by rw[List.length_drop];omega),zU h,List.getElem_drop]
theorem zfS{w:World}{a:Option Addr}{n cap k:Nat}{es:List Ent}(h:RdE w (.slice a n cap) es)(hk:k≤es.length):RdE w (.slice a k cap) (es.take k):=by
 obtain⟨a',cap',hv,h1,h2,h0,h3⟩:=h;simp only[Value.slice.injEq] at hv;obtain⟨rfl,_,rfl⟩:=hv;have hl:(es.take k).length=k:=by rw[List.length_take];omega
 refine⟨a,cap,by rw[hl],by omega,h2,h0,?_⟩;rcases h3 with rfl | ⟨b,off,ha,hc⟩
 ·exact .inl (by simp)
 ·exact .inr ⟨b,off,ha,fun i hi=>by rw[zid (by omega) (by omega)];exact hc i (by omega)⟩
theorem rdE_drop{w:World}{b off n cap k:Nat}{es:List Ent}(h:RdE w (.slice (some ⟨b,off,none⟩) n cap) es)(hk:k≤es.length):RdE w (.slice (some ⟨b,off+k*4,none⟩) (es.length-k) (cap-k)) (es.drop k):=by
 obtain⟨a',cap',hv,h1,h2,h0,h3⟩:=h;simp only[Value.slice.injEq] at hv;obtain⟨rfl,_,rfl⟩:=hv;have hl:(es.drop k).length=es.length-k:=List.length_drop;refine⟨_,_,by rw[hl],by omega,by omega,(fun h=>by cases h),?_⟩;rcases h3 with rfl | ⟨b',off',ha,hc⟩
 ·exact .inl (by simp)
 ·cases ha
  refine .inr ⟨b,off+k*4,rfl,fun i hi=>?_⟩;rw[zfU (by omega),show off+k*4+i*4=off+(k+i)*4 by omega];exact hc (k+i) (by omega)
theorem zeL{w:World}{ad:Option Addr}{cap:Nat}{es:List Ent}(h0:ad=none→cap=0)(hm:cap≤maxLen)(he:es=[]):RdE w (.slice ad 0 cap) es:=by
 subst he;exact⟨ad,cap,rfl,Nat.zero_le _,hm,h0,.inl rfl⟩
theorem zih{w:World}{b off n cap k:Nat}{es:List Ent}(h:RdE w (.slice (some ⟨b,off,none⟩) n cap) es)(hk:k≤es.length):RdE w (.slice (if cap=k then some ⟨b,off,none⟩ else some ⟨b,off+k*4,none⟩) (es.length-k) (cap-k)) (es.drop k):=by
 split
 ·rename_i hck;obtain⟨a',cap',hv,h1,h2,h0,h3⟩:=h;simp only[Value.slice.injEq] at hv;obtain⟨_,_,rfl⟩:=hv;have hl:es.length-k=0:=by omega
  rw[hl];exact zeL (fun h=>by cases h) (by omega) (List.drop_eq_nil_of_le (by omega))
 ·exact rdE_drop h hk
theorem zh1{w:World}{b:Nat}{x:Ent}(h:EntAt w b 0 x):RdE w (.slice (some ⟨b,0,none⟩) 1 1) [x] :=
 ⟨_,1,rfl,nR _,by decide,(fun h=>by cases h),.inr ⟨b,0,rfl,fun i hi=>by
  have:i=0:=by simpa using hi
  subst this;exact h⟩⟩
theorem zj7(v:Value)(es:List Ent)(x:Ent)(w:World)(hr:RdE w v es)(hn:es.length≤1000000) :
 Calls Tryz.prog 144 #[v,.agg #[.string x.key,.string x.val,.int .i64 x.seq,.bool x.gone]] w fun e w'=>∃ u,e=.returned u∧OwnE w' w.heap.size u (insE es x)∧Below w.heap.size w w':=by
 obtain⟨a,cap,hv,hl,hm,hnil,_⟩:=id hr;have hm0:=hm;unfold maxLen at hm;subst hv;have hbx:=zds w x 40;have hb0:=ze w (.cells #[.string x.key,.string x.val,.int .i64 x.seq,.bool x.gone] 40);go_enter Tryz.func144,Tryz.ntmps144
 go_wp2_with fail
 go_loopw [5] (fun i wr=>∃ k:Nat,k≤es.length∧i=.int .i64 k∧Hid (∀ j,j<k→ahd (nth es j) x=true)∧EntAt wr w.heap.size 0 x∧Below w.heap.size w wr∧w.heap.size+1≤wr.heap.size) (fun i _=>es.length-(intOf i).toNat)
 case atStart=>exact⟨0,Nat.zero_le _,rfl,(fun j hj=>absurd hj (Nat.not_lt_zero _)),hbx,hb0,by simp⟩
 case round =>
  obtain⟨k,hk,rfl,HO,hx0,hb,hsz⟩:=hrel;clear hbx hb0;have hrw:=hr.below hb;by_cases hlt:k<es.length
  ·obtain⟨b,off,rfl,hc⟩:=hrw.at rfl k hlt;obtain⟨y,hy⟩:∃ y,y=nth es k:=⟨_,rfl⟩;rw[← hy] at hc;have HY:Hid (y=nth es k):=hy;clear hy;have hkl:decide (k<es.length)=true:=(by simpa using hlt);cases hah:ahd y x with
   | true =>
    have HO2:Hid (∀ j,j<k+1→ahd (nth es j) x=true):=by
     intro j hj;by_cases hjk:j=k
     ·subst hjk;rw[← HY.out];exact hah
     ·exact HO.out j (by omega)
    go_wp2_with fail
    refine brg (S:=fun w'=>EntAt w' w.heap.size 0 x∧EntAt w' b (off+k*4) y) ⟨hx0,hc⟩ (fun hH=>?_);refine kA 0 7 hH ?_;refine kA 1 8 hH ?_;refine kA 2 9 hH ?_;refine kA 3 10 hH ?_;refine kA 4 11 hH ?_;refine kA 5 12 hH ?_;refine kA 6 13 hH ?_;refine kA 7 14 hH ?_;refine kA 8 15 hH ?_;refine kA 9 16 hH ?_;refine rdy 10 (fun K hK=>?_);go_simp;refine(zbh y x _).mono ?_;rw[hah];rintro e w' ⟨rfl,hb'⟩;refine hK.out _ _ ⟨hH.1.below hb',hH.2.below hb'⟩ (fun hA=>?_);clear hK K;try simp only[Act.put,sA,sZ,sS]
    refine kA 11 18 hA ?_;refine dne ?_;go_wp2;go_roundw
    case rel=>exact⟨k+1,by omega,by go_num,HO2,hA.1,hb.drew.trans (hb'.mono hb.size),by have:=hb'.size;simp at this;omega⟩
    case measure=>simp[intOf];omega
   | false =>
    have HK:Hid (atE es x=k):=zlx es x k hk HO.out (fun _=>by rw[← HY.out];exact hah);go_wp2_with fail
    refine brg (S:=fun w'=>EntAt w' w.heap.size 0 x∧EntAt w' b (off+k*4) y) ⟨hx0,hc⟩ (fun hH=>?_);refine kA 0 7 hH ?_;refine kA 1 8 hH ?_;refine kA 2 9 hH ?_;refine kA 3 10 hH ?_;refine kA 4 11 hH ?_;refine kA 5 12 hH ?_;refine kA 6 13 hH ?_;refine kA 7 14 hH ?_;refine kA 8 15 hH ?_;refine kA 9 16 hH ?_;refine rdy 10 (fun K hK=>?_);go_simp;refine(zbh y x _).mono ?_;rw[hah];rintro e w1 ⟨rfl,hb'⟩;refine hK.out _ _ ⟨hH.1.below hb',hH.2.below hb'⟩ (fun hA=>?_);clear hK K;try simp only[Act.put,sA,sZ,sS]
    refine kA 11 18 hA ?_;refine dne ?_;have hr1:=(hrw.drewN 1).below hb';have bz:=hb.drew.trans (hb'.mono hb.size);have hs1:=hb'.size;have hx1:=hA.1;clear hA hH hc hb hx0 hb' HO hrw;simp at hs1;have hkc:k<cap:=(by omega);go_wp2_with (at_builtin;(refine zp rfl _ _ rfl (w.heap.size+1) _ _ [] (es.take k) rfl rfl ?c1 ?c2 ?c3 ?c4 ?_))
    case c1=>exact(zX _).mono (by omega)
    case c2=>exact zfS (hr1.below (ze _ _)) hk
    case c3=>first | (simp;done) | (simp;omega)
    case c4=>simp;omega
    intro v2 w2 ho2 hg2;have hx2:EntAt w2 w.heap.size 0 x:=(hx1.below (ze _ (.cells #[] 40))).of_block (hg2.block _ (by simp;omega) (by simp[Value.ownBlock];omega));have bz2:Below w.heap.size w w2:=(bz.alloc (by omega) _).grown hg2 (by simp;omega) (fun k hk=>by simp[Value.ownBlock] at hk;omega);have hr2:=hr.below bz2;have hs2:=hg2.size;simp at hs2;clear hr1 hx1 hg2;go_wp2_with fail
    refine brg (S:=fun w'=>EntAt w' w.heap.size 0 x) hx2 (fun hH=>?_);refine kA 0 26 hH ?_;refine kA 1 27 hH ?_;refine kA 4 30 hH ?_;refine kA 5 31 hH ?_;refine kA 6 32 hH ?_;refine rdy 2 (fun K hK=>?_);go_simp;refine hK.out _ _ (hH.below (ze _ _)) (fun h2=>?_);clear hK K;try simp only[Act.put,sA,sZ,sS]
    refine rdy 3 (fun K hK=>?_);refine zS rfl 29 rfl _ _ rfl (w.heap.size+1) v2 (.slice (some ⟨w2.heap.size,0,none⟩) 1 1) ([]++es.take k) [x] rfl rfl ?d1 ?d2 ?d3 ?d4 ?_
    case d1=>exact ho2.below (ze _ _).drew
    case d2=>exact zh1 (zds _ _ _)
    case d3=>first | (simp;done) | (simp;omega)
    case d4=>simp;omega
    intro v3 w3 ho3 hg3;have bv2:∀ k,v2.ownBlock=some k→w.heap.size+1≤k:=fun k hk=>(oL ho2 k hk).1
    have hx3:EntAt w3 w.heap.size 0 x:=h2.of_block (hg3.block _ (by simp;omega) (fun e=>by have:=bv2 _ e.symm;omega));have bz3:Below w.heap.size w w3:=(bz2.alloc bz2.size _).drew.grown hg3 (by simp;omega) (fun k hk=>by have:=bv2 _ hk;omega);have hs3:=hg3.size;simp at hs3;refine hK.out _ _ hx3 (fun h3=>?_);clear hK K;try simp only[Act.put,sA,sZ,sS]
    refine rdy 7 (fun K hK=>?_);refine zS rfl 33 rfl _ _ rfl (w.heap.size+1) v3 _ ([]++es.take k++[x]) (es.drop k) rfl rfl ?e1 ?e2 ?e3 ?e4 ?_
    case e1=>exact ho3
    case e2=>exact zih (hr.below bz3) hk
    case e3=>first | (simp;done) | (simp;omega)
    case e4=>omega
    intro v4 w4 ho4 hg4;have bv3:∀ k,v3.ownBlock=some k→w.heap.size+1≤k:=fun k hk=>(oL ho3 k hk).1
    have hx4:EntAt w4 w.heap.size 0 x:=h3.of_block (hg4.block _ (by omega) (fun e=>by have:=bv3 _ e.symm;omega));have bz4:Below w.heap.size w w4:=bz3.grown hg4 bz3.size (fun k hk=>by have:=bv3 _ hk;omega);refine hK.out _ _ hx4 (fun h4=>?_);clear hK K;try simp only[Act.put,sA,sZ,sS]
    refine kA 8 4 h4 ?_;refine dne ?_;go_wp2;all_goals go_ret
    all_goals refine⟨_,rfl,?_,bz4⟩
    all_goals have e:insE es x=[]++es.take k++[x]++es.drop k:=by unfold insE;rw[HK.out];simp
    all_goals rw[e]
    all_goals exact ho4.mono (Nat.le_succ _)
  ·have hke:k=es.length:=(by omega);have HK:Hid (atE es x=k):=zlx es x k hk HO.out (fun h=>by omega);have hkl:decide (k<es.length)=false:=(by simpa using hlt);rcases ‹(es=[]∨_)› with he | ⟨b,off,ha,_⟩
   ·cases a with
    | none =>
     have hc0:=hnil rfl;subst he;have hk0:k=0:=(by simpa using hke);subst hk0;subst hc0;clear hke hkl hlt;go_wp2_with fail
     refine brg (S:=fun w'=>EntAt w' w.heap.size 0 x) hx0 (fun hH=>?_);refine kA 0 7 hH ?_;refine kA 1 8 hH ?_;refine kA 2 9 hH ?_;refine kA 3 10 hH ?_;refine kA 4 11 hH ?_;refine kS 5 12 hH ?_;refine kS 6 13 hH ?_;refine kS 7 14 hH ?_;refine kS 8 15 hH ?_;refine kS 9 16 hH ?_;refine kS 10 17 hH ?_;refine kA 11 18 hH ?_;refine dne ?_;have hr1:=hrw.drewN 1;have bz:=hb.drew;have hx1:EntAt wr.drew w.heap.size 0 x:=hx0;have hs1:wr.heap.size≤wr.drew.heap.size:=nR _;clear hH hb hx0 hrw HO;change RdE wr.drew _ [] at hr1;revert hr1 bz hx1 hs1;generalize wr.drew=w1;intro bz hx1 hs1 hr1;go_wp2_with (at_builtin;(refine zp rfl _ _ rfl (w.heap.size+1) _ _ [] (([]:List Ent).take 0) rfl rfl ?c1 ?c2 ?c3 ?c4 ?_))
     case c1=>exact(zX _).mono (by omega)
     case c2=>exact zfS (hr1.below (ze _ _)) hk
     case c3=>first | (simp;done) | (simp;omega)
     case c4=>simp;omega
     intro v2 w2 ho2 hg2;have hx2:EntAt w2 w.heap.size 0 x:=(hx1.below (ze _ (.cells #[] 40))).of_block (hg2.block _ (by simp;omega) (by simp[Value.ownBlock];omega));have bz2:Below w.heap.size w w2:=(bz.alloc (by omega) _).grown hg2 (by simp;omega) (fun k hk=>by simp[Value.ownBlock] at hk;omega);have hr2:=hr.below bz2;have hs2:=hg2.size;simp at hs2;clear hr1 hx1 hg2;go_wp2_with fail
     refine brg (S:=fun w'=>EntAt w' w.heap.size 0 x) hx2 (fun hH=>?_);refine kA 0 26 hH ?_;refine kA 1 27 hH ?_;refine kA 4 30 hH ?_;refine kA 5 31 hH ?_;refine kA 6 32 hH ?_;refine rdy 2 (fun K hK=>?_);go_simp;refine hK.out _ _ (hH.below (ze _ _)) (fun h2=>?_);clear hK K;try simp only[Act.put,sA,sZ,sS]
     refine rdy 3 (fun K hK=>?_);refine zS rfl 29 rfl _ _ rfl (w.heap.size+1) v2 (.slice (some ⟨w2.heap.size,0,none⟩) 1 1) ([]++([]:List Ent).take 0) [x] rfl rfl ?d1 ?d2 ?d3 ?d4 ?_
     case d1=>exact ho2.below (ze _ _).drew
     case d2=>exact zh1 (zds _ _ _)
     case d3=>first | (simp;done) | (simp;omega)
     case d4=>simp;omega
     intro v3 w3 ho3 hg3;have bv2:∀ k,v2.ownBlock=some k→w.heap.size+1≤k:=fun k hk=>(oL ho2 k hk).1
     have hx3:EntAt w3 w.heap.size 0 x:=h2.of_block (hg3.block _ (by simp;omega) (fun e=>by have:=bv2 _ e.symm;omega));have bz3:Below w.heap.size w w3:=(bz2.alloc bz2.size _).drew.grown hg3 (by simp;omega) (fun k hk=>by have:=bv2 _ hk;omega);have hs3:=hg3.size;simp at hs3;refine hK.out _ _ hx3 (fun h3=>?_);clear hK K;try simp only[Act.put,sA,sZ,sS]
     refine rdy 7 (fun K hK=>?_);refine zS rfl 33 rfl _ _ rfl (w.heap.size+1) v3 _ ([]++([]:List Ent).take 0++[x]) (([]:List Ent).drop 0) rfl rfl ?e1 ?e2 ?e3 ?e4 ?_
     case e1=>exact ho3
     case e2=>exact zeL (fun _=>rfl) (Nat.zero_le _) rfl
     case e3=>first | (simp;done) | (simp;omega)
     case e4=>omega
     intro v4 w4 ho4 hg4;have bv3:∀ k,v3.ownBlock=some k→w.heap.size+1≤k:=fun k hk=>(oL ho3 k hk).1
     have hx4:EntAt w4 w.heap.size 0 x:=h3.of_block (hg4.block _ (by omega) (fun e=>by have:=bv3 _ e.symm;omega));have bz4:Below w.heap.size w w4:=bz3.grown hg4 bz3.size (fun k hk=>by have:=bv3 _ hk;omega);refine hK.out _ _ hx4 (fun h4=>?_);clear hK K;try simp only[Act.put,sA,sZ,sS]
     refine kA 8 4 h4 ?_;refine dne ?_;go_wp2;all_goals go_ret
     all_goals refine⟨_,rfl,?_,bz4⟩
     all_goals have e:insE ([]:List Ent) x=[]++([]:List Ent).take 0++[x]++([]:List Ent).drop 0:=by unfold insE;rw[HK.out];simp
     all_goals rw[e]
     all_goals exact ho4.mono (Nat.le_succ _)
    | some ad =>
     subst he;have hk0:k=0:=(by simpa using hke);subst hk0;clear hke hkl hlt;go_wp2_with fail
     refine brg (S:=fun w'=>EntAt w' w.heap.size 0 x) hx0 (fun hH=>?_);refine kA 0 7 hH ?_;refine kA 1 8 hH ?_;refine kA 2 9 hH ?_;refine kA 3 10 hH ?_;refine kA 4 11 hH ?_;refine kS 5 12 hH ?_;refine kS 6 13 hH ?_;refine kS 7 14 hH ?_;refine kS 8 15 hH ?_;refine kS 9 16 hH ?_;refine kS 10 17 hH ?_;refine kA 11 18 hH ?_;refine dne ?_;have hr1:=hrw.drewN 1;have bz:=hb.drew;have hx1:EntAt wr.drew w.heap.size 0 x:=hx0;have hs1:wr.heap.size≤wr.drew.heap.size:=nR _;clear hH hb hx0 hrw HO;change RdE wr.drew _ [] at hr1;revert hr1 bz hx1 hs1;generalize wr.drew=w1;intro bz hx1 hs1 hr1;go_wp2_with (at_builtin;(refine zp rfl _ _ rfl (w.heap.size+1) _ _ [] (([]:List Ent).take 0) rfl rfl ?c1 ?c2 ?c3 ?c4 ?_))
     case c1=>exact(zX _).mono (by omega)
     case c2=>exact zfS (hr1.below (ze _ _)) hk
     case c3=>first | (simp;done) | (simp;omega)
     case c4=>simp;omega
     intro v2 w2 ho2 hg2;have hx2:EntAt w2 w.heap.size 0 x:=(hx1.below (ze _ (.cells #[] 40))).of_block (hg2.block _ (by simp;omega) (by simp[Value.ownBlock];omega));have bz2:Below w.heap.size w w2:=(bz.alloc (by omega) _).grown hg2 (by simp;omega) (fun k hk=>by simp[Value.ownBlock] at hk;omega);have hr2:=hr.below bz2;have hs2:=hg2.size;simp at hs2;clear hr1 hx1 hg2;go_wp2_with fail
     refine brg (S:=fun w'=>EntAt w' w.heap.size 0 x) hx2 (fun hH=>?_);refine kA 0 26 hH ?_;refine kA 1 27 hH ?_;refine kA 4 30 hH ?_;refine kA 5 31 hH ?_;refine kA 6 32 hH ?_;refine rdy 2 (fun K hK=>?_);go_simp;refine hK.out _ _ (hH.below (ze _ _)) (fun h2=>?_);clear hK K;try simp only[Act.put,sA,sZ,sS]
     refine rdy 3 (fun K hK=>?_);refine zS rfl 29 rfl _ _ rfl (w.heap.size+1) v2 (.slice (some ⟨w2.heap.size,0,none⟩) 1 1) ([]++([]:List Ent).take 0) [x] rfl rfl ?d1 ?d2 ?d3 ?d4 ?_
     case d1=>exact ho2.below (ze _ _).drew
     case d2=>exact zh1 (zds _ _ _)
     case d3=>first | (simp;done) | (simp;omega)
     case d4=>simp;omega
     intro v3 w3 ho3 hg3;have bv2:∀ k,v2.ownBlock=some k→w.heap.size+1≤k:=fun k hk=>(oL ho2 k hk).1
     have hx3:EntAt w3 w.heap.size 0 x:=h2.of_block (hg3.block _ (by simp;omega) (fun e=>by have:=bv2 _ e.symm;omega));have bz3:Below w.heap.size w w3:=(bz2.alloc bz2.size _).drew.grown hg3 (by simp;omega) (fun k hk=>by have:=bv2 _ hk;omega);have hs3:=hg3.size;simp at hs3;refine hK.out _ _ hx3 (fun h3=>?_);clear hK K;try simp only[Act.put,sA,sZ,sS]
     refine rdy 7 (fun K hK=>?_);refine zS rfl 33 rfl _ _ rfl (w.heap.size+1) v3 _ ([]++([]:List Ent).take 0++[x]) (([]:List Ent).drop 0) rfl rfl ?e1 ?e2 ?e3 ?e4 ?_
     case e1=>exact ho3
     case e2=>exact zeL (fun h=>by first | cases h | (split at h<;>cases h)) (by first | exact hm0 | omega) rfl
     case e3=>first | (simp;done) | (simp;omega)
     case e4=>omega
     intro v4 w4 ho4 hg4;have bv3:∀ k,v3.ownBlock=some k→w.heap.size+1≤k:=fun k hk=>(oL ho3 k hk).1
     have hx4:EntAt w4 w.heap.size 0 x:=h3.of_block (hg4.block _ (by omega) (fun e=>by have:=bv3 _ e.symm;omega));have bz4:Below w.heap.size w w4:=bz3.grown hg4 bz3.size (fun k hk=>by have:=bv3 _ hk;omega);refine hK.out _ _ hx4 (fun h4=>?_);clear hK K;try simp only[Act.put,sA,sZ,sS]
     refine kA 8 4 h4 ?_;refine dne ?_;go_wp2;all_goals go_ret
     all_goals refine⟨_,rfl,?_,bz4⟩
     all_goals have e:insE ([]:List Ent) x=[]++([]:List Ent).take 0++[x]++([]:List Ent).drop 0:=by unfold insE;rw[HK.out];simp
     all_goals rw[e]
     all_goals exact ho4.mono (Nat.le_succ _)
   ·skip
    subst ha;clear hke;go_wp2_with fail
    refine brg (S:=fun w'=>EntAt w' w.heap.size 0 x) hx0 (fun hH=>?_);refine kA 0 7 hH ?_;refine kA 1 8 hH ?_;refine kA 2 9 hH ?_;refine kA 3 10 hH ?_;refine kA 4 11 hH ?_;refine kS 5 12 hH ?_;refine kS 6 13 hH ?_;refine kS 7 14 hH ?_;refine kS 8 15 hH ?_;refine kS 9 16 hH ?_;refine kS 10 17 hH ?_;refine kA 11 18 hH ?_;refine dne ?_;have hr1:=hrw.drewN 1;have bz:=hb.drew;have hx1:EntAt wr.drew w.heap.size 0 x:=hx0;have hs1:wr.heap.size≤wr.drew.heap.size:=nR _;clear hH hb hx0 hrw HO;change RdE wr.drew _ es at hr1;revert hr1 bz hx1 hs1;generalize wr.drew=w1;intro bz hx1 hs1 hr1;go_wp2_with (at_builtin;(refine zp rfl _ _ rfl (w.heap.size+1) _ _ [] (es.take k) rfl rfl ?c1 ?c2 ?c3 ?c4 ?_))
    case c1=>exact(zX _).mono (by omega)
    case c2=>exact zfS (hr1.below (ze _ _)) hk
    case c3=>first | (simp;done) | (simp;omega)
    case c4=>simp;omega
    intro v2 w2 ho2 hg2;have hx2:EntAt w2 w.heap.size 0 x:=(hx1.below (ze _ (.cells #[] 40))).of_block (hg2.block _ (by simp;omega) (by simp[Value.ownBlock];omega));have bz2:Below w.heap.size w w2:=(bz.alloc (by omega) _).grown hg2 (by simp;omega) (fun k hk=>by simp[Value.ownBlock] at hk;omega);have hr2:=hr.below bz2;have hs2:=hg2.size;simp at hs2;clear hr1 hx1 hg2;go_wp2_with fail
    refine brg (S:=fun w'=>EntAt w' w.heap.size 0 x) hx2 (fun hH=>?_);refine kA 0 26 hH ?_;refine kA 1 27 hH ?_;refine kA 4 30 hH ?_;refine kA 5 31 hH ?_;refine kA 6 32 hH ?_;refine rdy 2 (fun K hK=>?_);go_simp;refine hK.out _ _ (hH.below (ze _ _)) (fun h2=>?_);clear hK K;try simp only[Act.put,sA,sZ,sS]
    refine rdy 3 (fun K hK=>?_);refine zS rfl 29 rfl _ _ rfl (w.heap.size+1) v2 (.slice (some ⟨w2.heap.size,0,none⟩) 1 1) ([]++es.take k) [x] rfl rfl ?d1 ?d2 ?d3 ?d4 ?_
    case d1=>exact ho2.below (ze _ _).drew
    case d2=>exact zh1 (zds _ _ _)
    case d3=>first | (simp;done) | (simp;omega)
    case d4=>simp;omega
    intro v3 w3 ho3 hg3;have bv2:∀ k,v2.ownBlock=some k→w.heap.size+1≤k:=fun k hk=>(oL ho2 k hk).1
    have hx3:EntAt w3 w.heap.size 0 x:=h2.of_block (hg3.block _ (by simp;omega) (fun e=>by have:=bv2 _ e.symm;omega));have bz3:Below w.heap.size w w3:=(bz2.alloc bz2.size _).drew.grown hg3 (by simp;omega) (fun k hk=>by have:=bv2 _ hk;omega);have hs3:=hg3.size;simp at hs3;refine hK.out _ _ hx3 (fun h3=>?_);clear hK K;try simp only[Act.put,sA,sZ,sS]
    refine rdy 7 (fun K hK=>?_);refine zS rfl 33 rfl _ _ rfl (w.heap.size+1) v3 _ ([]++es.take k++[x]) (es.drop k) rfl rfl ?e1 ?e2 ?e3 ?e4 ?_
    case e1=>exact ho3
    case e2=>exact zih (hr.below bz3) hk
    case e3=>first | (simp;done) | (simp;omega)
    case e4=>omega
    intro v4 w4 ho4 hg4;have bv3:∀ k,v3.ownBlock=some k→w.heap.size+1≤k:=fun k hk=>(oL ho3 k hk).1
    have hx4:EntAt w4 w.heap.size 0 x:=h3.of_block (hg4.block _ (by omega) (fun e=>by have:=bv3 _ e.symm;omega));have bz4:Below w.heap.size w w4:=bz3.grown hg4 bz3.size (fun k hk=>by have:=bv3 _ hk;omega);refine hK.out _ _ hx4 (fun h4=>?_);clear hK K;try simp only[Act.put,sA,sZ,sS]
    refine kA 8 4 h4 ?_;refine dne ?_;go_wp2;all_goals go_ret
    all_goals refine⟨_,rfl,?_,bz4⟩
    all_goals have e:insE es x=[]++es.take k++[x]++es.drop k:=by unfold insE;rw[HK.out];simp
    all_goals rw[e]
    all_goals exact ho4.mono (Nat.le_succ _)
end Go.Proofs.YtjlnchhgkfnldaaGreat
