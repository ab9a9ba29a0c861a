import Derived.Test.YtmlmlemiidedcaaGreatG29
import Derived.Deep.RegionHeld3
namespace Go.Proofs.YtmlmlemiidedcaaGreat
set_option maxHeartbeats 16000000
set_option maxRecDepth 100000
open Go.RowKit
theorem tabL_tl {ys os:List TV} {T:Tre} (h1:ys.map (·.T)=T.young) (h2:os.map (·.T)=T.old):tl ys ys.length++tl os os.length=tabL T:=by
 rw [tl_all,tl_all]
 unfold tabL
 rw [← h1,← h2,List.map_append,List.map_map,List.map_map]
 rfl
end Go.Proofs.YtmlmlemiidedcaaGreat
namespace Go.Proofs.YtmlmlemiidedcaaGreat
set_option maxHeartbeats 16000000
set_option maxRecDepth 100000
open Go.RowKit
open Go.RowKit
def FitsW (x:Wri):Prop:=x.key.size≤4503599627370496∧x.val.size≤4503599627370496
def batchOk (xs:List Wri):Bool:=decide (xs.length≤20) && xs.all wriOk
def BoxW (w:World) (b:Nat) (x:Wri):Prop:=w.cell? ⟨b,0,none⟩=some (.string x.key)∧w.cell? ⟨b,1,none⟩=some (.string x.val)∧w.cell? ⟨b,2,none⟩=some (.bool x.gone)
theorem boxW_new (w:World) (x:Wri) (t:TypeId):BoxW (w.alloc (.cells #[.string x.key,.string x.val,.bool x.gone] t)) w.heap.size x:=by
 refine ⟨?_,?_,?_⟩<;>simp [World.cell?_alloc_at]
theorem batch_more {xs:List Wri} {k:Nat} (hk:k < xs.length) (h:(xs.take k).all wriOk=true) (hx:wriOk (nthW xs k)=true):(xs.take (k+1)).all wriOk=true:=by
 rw [List.take_succ_eq_append_getElem hk,List.all_append,h,← nthW_eq hk]
 simp [hx]
theorem batch_not {xs:List Wri} {k:Nat} (hk:k < xs.length) (hx:wriOk (nthW xs k)=false):xs.all wriOk=false:=by
 rw [Bool.eq_false_iff]
 intro h
 rw [List.all_eq_true] at h
 have:=h (nthW xs k) (by rw [nthW_eq hk];exact List.getElem_mem hk)
 rw [hx] at this
 cases this
theorem l7Batch_any (v:Value) (xs:List Wri) (w:World) (hr:RdW w v xs) (hf:∀ x∈xs,FitsW x) :
 Calls Tryz.prog 81 #[v] w fun e w'=>e=.returned (.bool (batchOk xs))∧Below w.heap.size w w':=by
 obtain ⟨a,cap,hv,hl,hm,_⟩:=id hr
 unfold maxLen at hm
 obtain ⟨n,hn⟩:∃ n,n=xs.length:=⟨_,rfl⟩
 rw [← hn] at hv hl
 have HN:Hid (n=xs.length):=hn
 have HF:Hid (∀ x∈xs,FitsW x):=hf
 subst hv
 clear hn hf
 by_cases hbig:20 < n
 ·have END:Hid (batchOk xs=false):=by unfold Hid batchOk;rw [decide_eq_false (by rw [← HN.out];omega)];rfl
  go_enter Tryz.func81,Tryz.ntmps81
  go_wp2
  go_ret
  exact ⟨by rw [END.out];rfl,Below.refl _ _⟩
 ·have HB:Hid (∀ b,xs.all wriOk=b→batchOk xs=b):=fun b h=>by unfold batchOk;rw [decide_eq_true (by rw [← HN.out];omega),h];rfl
  go_enter Tryz.func81,Tryz.ntmps81
  go_wp2
  go_loopw [3] (fun i wr=>∃ k:Nat,k≤n∧i=.int .i64 k∧Hid ((xs.take k).all wriOk=true)∧Below w.heap.size w wr) (fun i _=>n - (intOf i).toNat)
  case atStart=>exact ⟨0,Nat.zero_le _,rfl,rfl,Below.refl _ _⟩
  case round =>
   obtain ⟨k,hk,rfl,HA,hb⟩:=hrel
   by_cases hlt:k < n
   ·have hkl:k < xs.length:=by rw [← HN.out];exact hlt
    have hkc:k < cap:=by omega
    obtain ⟨b,off,rfl,hc⟩:=(hr.below hb).at HN.out k hkl
    have hfx:=HF.out (nthW xs k) (by rw [nthW_eq hkl];exact List.getElem_mem hkl)
    have HM:Hid (wriOk (nthW xs k)=true→(xs.take (k+1)).all wriOk=true):=fun h=>batch_more hkl HA.out h
    have HNO:Hid (wriOk (nthW xs k)=false→batchOk xs=false):=fun h=>HB.out false (batch_not hkl h)
    generalize nthW xs k=x at hc hfx HM HNO
    obtain ⟨c0,c1,c2⟩:=hc
    have HE:Hid (∀ W,Calls Tryz.prog 115 #[.agg #[.string x.key,.string x.val,.int .i64 1,.bool x.gone]] W fun e w'=>e=.returned (.bool (wriOk x))∧Below W.heap.size W w'):=fun W=>l3Entry_any (wriE x 1) W ⟨hfx.1,hfx.2,by show (-9223372036854775808:Int)≤1;omega,by show (1:Int)≤9223372036854775807;omega⟩
    have hx1:=boxW_new wr x 42
    have bb:=hb.alloc hb.size (.cells #[.string x.key,.string x.val,.bool x.gone] 42)
    obtain ⟨d0,d1,d2⟩:=id hx1
    clear hkl hfx
    go_wp2_with fail
    refine (HE.out _).mono ?_
    rintro e w1 ⟨rfl,hb1⟩
    have b1:=bb.trans (hb1.mono bb.size)
    clear hx1 d0 d1 d2 bb hb1 hb HA
    cases hwx:wriOk x with
    | false =>
     have END:Hid (batchOk xs=false):=HNO.out hwx
     clear HM HNO HE hwx
     go_wp2
     go_ret
     exact ⟨by rw [END.out];rfl,b1⟩
    | true =>
     have HA2:Hid ((xs.take (k+1)).all wriOk=true):=HM.out hwx
     clear HM HNO HE hwx
     go_wp2
     go_roundw
     case rel=>exact ⟨k+1,by omega,by go_num,HA2,b1⟩
     case measure=>simp [intOf];omega
   ·have hke:k=n:=by omega
    have END:Hid (batchOk xs=true):=HB.out true (by have:=HA.out;rwa [hke,HN.out,List.take_length] at this)
    clear hke HA
    go_wp2
    go_ret
    exact ⟨by rw [END.out];rfl,hb⟩
theorem entryOf_any (x:Wri) (s:Int) (w:World) :
 Calls Tryz.prog 69 #[.agg #[.string x.key,.string x.val,.bool x.gone],.int .i64 s] w fun e w'=>e=.returned (.agg #[.string x.key,.string x.val,.int .i64 s,.bool x.gone])∧Below w.heap.size w w':=by
 go_enter Tryz.func69,Tryz.ntmps69
 go_wp2
 refine bodyPost_ret (v:=.agg #[.string x.key,.string x.val,.int .i64 s,.bool x.gone]) (by simp [results,Tryz.results69,go_sem]) rfl ⟨rfl,?_⟩
 exact below2 _ _ _
open Go.RowKit
def putAll (T:Tre) (xs:List Wri):Tre:=xs.foldl put1 T
def roomFor (T:Tre) (xs:List Wri):Bool:=batchOk xs && decide (T.seq+(xs.length:Int)≤1000000) && decide (T.mem.length+xs.length≤300)
def wroteR (T:Tre) (xs:List Wri):Tre:=if treeOk T=true then (if roomFor T xs=true then putAll T xs else T) else zeroTr
def wroteO (T:Tre) (xs:List Wri):Bool:=treeOk T && roomFor T xs
theorem putAll_snoc (T:Tre) {xs:List Wri} {k:Nat} (hk:k < xs.length):putAll T (xs.take (k+1))=put1 (putAll T (xs.take k)) (nthW xs k):=by
 unfold putAll
 rw [List.take_succ_eq_append_getElem hk,List.foldl_append,nthW_eq hk]
 rfl
theorem putAll_seq (T:Tre) (xs:List Wri):(putAll T xs).seq=T.seq+(xs.length:Int):=by
 unfold putAll
 induction xs generalizing T with
 | nil=>simp
 | cons a r ih =>
  rw [List.foldl_cons,ih,List.length_cons]
  show T.seq+1+(r.length:Int)=T.seq+((r.length+1:Nat):Int)
  omega
theorem putAll_len (T:Tre) (xs:List Wri):(putAll T xs).mem.length=T.mem.length+xs.length:=by
 unfold putAll
 induction xs generalizing T with
 | nil=>simp
 | cons a r ih =>
  rw [List.foldl_cons,ih,List.length_cons]
  show (insE T.mem (wriE a (T.seq+1))).length+r.length=T.mem.length+(r.length+1)
  rw [insE_length]
  omega
theorem putAll_rest (T:Tre) (xs:List Wri):(putAll T xs).young=T.young∧(putAll T xs).old=T.old∧(putAll T xs).snaps=T.snaps:=by
 unfold putAll
 induction xs generalizing T with
 | nil=>exact ⟨rfl,rfl,rfl⟩
 | cons a r ih=>rw [List.foldl_cons];exact ih (put1 T a)
theorem putAll_tree {T:Tre} (h:TreeP T):∀ {xs:List Wri},xs.all wriOk=true→T.seq+(xs.length:Int)≤1000000→T.mem.length+xs.length≤300→TreeP (putAll T xs):=by
 intro xs
 unfold putAll
 induction xs generalizing T with
 | nil=>intro _ _ _;exact h
 | cons a r ih =>
  intro h1 h2 h3
  rw [List.all_cons,Bool.and_eq_true] at h1
  rw [List.length_cons] at h2 h3
  rw [List.foldl_cons]
  refine ih (put1_tree h h1.1 (by omega) (by omega)) h1.2 ?_ ?_
  ·show T.seq+1+(r.length:Int)≤1000000
   omega
  ·show (insE T.mem (wriE a (T.seq+1))).length+r.length≤300
   rw [insE_length]
   omega
theorem putOk_tree {T:Tre} (h:TreeP T) (x:Wri):putOk T.mem (wriE x (T.seq+1))=(wriOk x && decide (T.seq < 1000000) && decide (T.mem.length < 300)):=by
 rw [Bool.eq_iff_iff]
 constructor
 ·intro hp
  simp only [putOk,Bool.and_eq_true,Bool.not_eq_true',decide_eq_false_iff_not] at hp
  obtain ⟨⟨⟨hs,he⟩,hn⟩,-⟩:=hp
  have hl:=okL_len hs
  have he2:=he
  unfold okE at he2
  simp only [wriE,Bool.and_eq_true] at he2
  have hq:T.seq+1≤1000000:=of_decide_eq_true he2.2
  have hw:wriOk x=true:=by
   unfold wriOk
   unfold okE at he ⊢
   simp only [wriE,Bool.and_eq_true] at he ⊢
   exact ⟨⟨he.1.1,decide_eq_true (by omega)⟩,decide_eq_true (by omega)⟩
  rw [hw,decide_eq_true (show T.seq < 1000000 by omega),decide_eq_true (show T.mem.length < 300 by omega)]
  rfl
 ·intro hp
  simp only [Bool.and_eq_true,decide_eq_true_eq] at hp
  obtain ⟨⟨hw,hs⟩,hl⟩:=hp
  have he:okE (wriE x (T.seq+1))=true:=wriOk_at hw (by have:=h.seq0;omega) (by omega)
  simp only [putOk,Bool.and_eq_true,Bool.not_eq_true',decide_eq_false_iff_not]
  refine ⟨⟨⟨h.mem,he⟩,by omega⟩,?_⟩
  cases hk:hasKS T.mem (wriE x (T.seq+1)) with
  | false=>rfl
  | true =>
   unfold hasKS at hk
   rw [List.any_eq_true] at hk
   obtain ⟨y,hy,hyk⟩:=hk
   have h1:=((sameKS_iff _ _).1 hyk).2
   have h2:=h.top T.mem List.mem_cons_self y hy
   simp only [wriE] at h1
   omega
open Go.RowKit
def WrotePost (w:World) (b B:Nat) (vy vo vs:Value) (M:List Ent) (q:Int) (ok:Bool) (e:Ending) (w':World):Prop :=
 e=.returned (.bool ok)∧(∃ vm',BoxTr w' b vm' vy vo q vs∧OwnE w' B vm' M)∧Touch [b] w w'
theorem boxTr_rowne {w:World} {B b t s n:Nat} {vm vy vo vs v:Value} {q:Int} {xs:List Value} (h:BoxTr w b vm vy vo q vs) (ho:w.ownsRow B t s v n xs) (ht:t≠28):∀ k,v.ownBlock=some k→b≠k:=by
 intro k hk e
 subst e
 rcases ho.2 with ⟨hv,_⟩ | ⟨g,cap,cur,hv,_,hg,_⟩
 ·rw [hv] at hk;cases hk
 ·rw [hv] at hk
  obtain rfl:g=b:=Option.some.inj hk
  unfold BoxTr at h
  rw [h] at hg
  injection hg with hg
  injection hg with _ h2
  exact ht h2.symm
theorem l7Wrote_any (T:Tre) (vm vy vo vs:Value) (b B:Nat) (v:Value) (xs:List Wri) (w:World) (hb:BoxTr w b vm vy vo T.seq vs) (hm:OwnE w B vm T.mem) (hB:B≤w.heap.size) (ht:TreeP T) (hr:RdW w v xs) (hrt:∀ w',Touch [b] w w'→RdW w' v xs) (hf:∀ x∈xs,FitsW x) :
 Calls Tryz.prog 44 #[.pointer (some ⟨b,0,none⟩),v] w fun e w'=>WrotePost w b B vy vo vs (if roomFor T xs=true then (putAll T xs).mem else T.mem) (if roomFor T xs=true then (putAll T xs).seq else T.seq) (roomFor T xs) e w':=by
 obtain ⟨M,hM⟩:∃ M,M=if roomFor T xs=true then (putAll T xs).mem else T.mem:=⟨_,rfl⟩
 obtain ⟨Q0,hQ0⟩:∃ Q0,Q0=if roomFor T xs=true then (putAll T xs).seq else T.seq:=⟨_,rfl⟩
 obtain ⟨ok,hok⟩:∃ ok,ok=roomFor T xs:=⟨_,rfl⟩
 rw [← hM,← hQ0,← hok]
 have HM0:Hid (M=if roomFor T xs=true then (putAll T xs).mem else T.mem):=hM
 have HQ0:Hid (Q0=if roomFor T xs=true then (putAll T xs).seq else T.seq):=hQ0
 have HOK:Hid (ok=roomFor T xs):=hok
 clear hM hQ0 hok
 have HBT:Hid (Calls Tryz.prog 81 #[v] w fun e w'=>e=.returned (.bool (batchOk xs))∧Below w.heap.size w w'):=l7Batch_any v xs w hr hf
 obtain ⟨a,cap,hv,hl,hmx,_⟩:=id hr
 unfold maxLen at hmx
 obtain ⟨n,hn⟩:∃ n,n=xs.length:=⟨_,rfl⟩
 rw [← hn] at hv hl
 have HN:Hid (n=xs.length):=hn
 have HRT:Hid (∀ w',Touch [b] w w'→RdW w' v xs):=hrt
 have HTP:Hid (TreeP T):=ht
 have hq0:=ht.seq0
 have hq1:=ht.seq1
 have hml:=okL_len ht.mem
 subst hv
 clear hn hf hrt hr
 obtain ⟨am,cm,hvm,hlm,hmm,-⟩:=id hm.rd
 unfold maxLen at hmm
 obtain ⟨mn,hmn⟩:∃ mn,mn=T.mem.length:=⟨_,rfl⟩
 rw [← hmn] at hvm hlm hml
 have HMN:Hid (mn=T.mem.length):=hmn
 clear hmn
 subst hvm
 obtain ⟨sq,hsq⟩:∃ sq,sq=T.seq:=⟨_,rfl⟩
 rw [← hsq] at hb hq0 hq1
 have HSQ:Hid (sq=T.seq):=hsq
 clear hsq
 have NOT:Hid (roomFor T xs=false→∀ w',Below w.heap.size w w'→WrotePost w b B vy vo vs M Q0 ok (.returned (.bool false)) w'):=fun h w' hw=>by
  rw [HM0.out,HQ0.out,HOK.out,h]
  exact ⟨rfl,⟨.slice am mn cm,by rw [if_neg (by simp),← HSQ.out];exact hb.on hw,by rw [if_neg (by simp)];exact hm.below hw⟩,Touch.of_below hw⟩
 cases hbo:batchOk xs with
 | false =>
  have NO:Hid (roomFor T xs=false):=by unfold Hid roomFor;rw [hbo];rfl
  rw [hbo] at HBT
  go_enter Tryz.func44,Tryz.ntmps44
  go_wp2_with fail
  refine HBT.out.mono ?_
  rintro e w1 ⟨rfl,hb1⟩
  have END:=NOT.out NO.out w1 hb1
  have END2:Hid (WrotePost _ _ _ _ _ _ _ _ _ _ _):=END
  clear END HBT hb1 NOT
  go_wp2
  go_ret
  exact END2.out
 | true =>
  have hn20:n≤20:=by
   unfold batchOk at hbo
   rw [Bool.and_eq_true,decide_eq_true_eq] at hbo
   have:=HN.out
   omega
  have HALL:Hid (xs.all wriOk=true):=by unfold batchOk at hbo;rw [Bool.and_eq_true] at hbo;exact hbo.2
  rw [hbo] at HBT
  by_cases h1:1000000 < sq+(n:Int)
  ·have NO:Hid (roomFor T xs=false):=by unfold Hid roomFor;rw [hbo,decide_eq_false (by rw [← HN.out,← HSQ.out];omega)];rfl
   go_enter Tryz.func44,Tryz.ntmps44
   go_wp2_with fail
   refine HBT.out.mono ?_
   rintro e w1 ⟨rfl,hb1⟩
   have END2:Hid (WrotePost _ _ _ _ _ _ _ _ _ _ _):=NOT.out NO.out w1 hb1
   obtain ⟨y0,y1,y2,y3,y4,-⟩:=(hb.on hb1).facts
   clear HBT hb1 NOT
   go_wp2
   go_ret
   exact END2.out
  by_cases h2:300 < mn+n
  ·have NO:Hid (roomFor T xs=false):=by unfold Hid roomFor;rw [decide_eq_false (show ¬ (T.mem.length+xs.length≤300) by rw [← HN.out,← HMN.out];omega),Bool.and_false]
   have h2':(300:Int) < (mn:Int)+(n:Int):=by omega
   go_enter Tryz.func44,Tryz.ntmps44
   go_wp2_with fail
   refine HBT.out.mono ?_
   rintro e w1 ⟨rfl,hb1⟩
   have END2:Hid (WrotePost _ _ _ _ _ _ _ _ _ _ _):=NOT.out NO.out w1 hb1
   obtain ⟨y0,y1,y2,y3,y4,-⟩:=(hb.on hb1).facts
   clear HBT hb1 NOT
   go_wp2
   go_ret
   exact END2.out
  have YES:Hid (roomFor T xs=true):=by unfold Hid roomFor;rw [hbo,decide_eq_true (by rw [← HN.out,← HSQ.out];omega),decide_eq_true (by rw [← HN.out,← HMN.out];omega)];rfl
  have h2':¬ (300:Int) < (mn:Int)+(n:Int):=by omega
  have HM1:Hid (M=(putAll T xs).mem):=by unfold Hid;rw [HM0.out,if_pos YES.out]
  have HQ1:Hid (Q0=(putAll T xs).seq):=by unfold Hid;rw [HQ0.out,if_pos YES.out]
  have HOK1:Hid (ok=true):=by unfold Hid;rw [HOK.out,YES.out]
  clear NOT HM0 HQ0 HOK
  go_enter Tryz.func44,Tryz.ntmps44
  go_wp2_with fail
  refine HBT.out.mono ?_
  rintro e w1 ⟨rfl,hb1⟩
  have zb1:=hb.on hb1
  have hm1:=hm.below hb1
  have T1:Touch [b] w w1:=Touch.of_below hb1
  obtain ⟨y0,y1,y2,y3,y4,-⟩:=zb1.facts
  clear HBT hb1
  go_wp2
  clear y0 y1 y2 y3 y4
  go_loopw [6] (fun i wr=>∃ (k:Nat) (vm':Value) (q:Int),k≤n∧i=.int .i64 k∧Hid (BoxTr wr b vm' vy vo q vs)∧Hid (q=(putAll T (xs.take k)).seq)∧Hid (OwnE wr B vm' (putAll T (xs.take k)).mem)∧Hid (Touch [b] w wr)) (fun i _=>n - (intOf i).toNat)
  case atStart=>exact ⟨0,_,sq,Nat.zero_le _,rfl,zb1,HSQ.out,hm1,T1⟩
  case round =>
   obtain ⟨k,vm',q,hk,rfl,ZB,HQ,HM,HT⟩:=hrel
   clear zb1 hm1 T1 hb hm
   by_cases hlt:k < n
   ·have hkl:k < xs.length:=by rw [← HN.out];exact hlt
    have hkc:k < cap:=by omega
    obtain ⟨c,off,rfl,hc⟩:=(HRT.out wr HT.out).at HN.out k hkl
    have HSN:Hid (putAll T (xs.take (k+1))=put1 (putAll T (xs.take k)) (nthW xs k)):=putAll_snoc T hkl
    have HLN:Hid ((putAll T (xs.take k)).mem.length≤300):=by
     unfold Hid
     rw [putAll_len,List.length_take,← HMN.out,← HN.out]
     omega
    have hqb:0≤q∧q < 1000000:=by
     have:=HQ.out
     rw [putAll_seq,List.length_take,← HSQ.out,← HN.out] at this
     omega
    obtain ⟨hq2,hq3⟩:=hqb
    generalize hU:putAll T (xs.take k)=U at HQ HM HSN HLN
    generalize nthW xs k=x at hc HSN
    clear hU hkl
    have hwl:=hc.lt
    obtain ⟨c0,c1,c2⟩:=id hc
    obtain ⟨au,cu,hvu,-⟩:=id HM.out.rd
    obtain ⟨un,hun⟩:∃ un,un=U.mem.length:=⟨_,rfl⟩
    rw [← hun] at hvu
    subst hvu
    clear hun
    have hbl:=ZB.out.lt
    have hx1:=boxW_new wr x 42
    have bb:=below1 wr (.cells #[.string x.key,.string x.val,.bool x.gone] 42)
    have zb2:=ZB.out.on bb
    have ss:(wr.setCell ⟨b,3,none⟩ (.int .i64 (q+1))).heap.size=wr.heap.size:=by simp
    have zs:=boxTr_set3 ZB.out (q+1)
    have hms:OwnE (wr.setCell ⟨b,3,none⟩ (.int .i64 (q+1))) B (.slice au un cu) U.mem:=row_set HM.out (boxTr_rowne ZB.out HM.out (by decide))
    have bs:=below1 (wr.setCell ⟨b,3,none⟩ (.int .i64 (q+1))) (.cells #[.string x.key,.string x.val,.bool x.gone] 42)
    have zb3:=zs.on bs
    have hm3:=hms.below bs
    have T3:Touch [b] w ((wr.setCell ⟨b,3,none⟩ (.int .i64 (q+1))).alloc (.cells #[.string x.key,.string x.val,.bool x.gone] 42)):=(HT.out.trans (Touch.set (by simp))).trans (Touch.of_below bs)
    have x3:BoxW ((wr.setCell ⟨b,3,none⟩ (.int .i64 (q+1))).alloc (.cells #[.string x.key,.string x.val,.bool x.gone] 42)) wr.heap.size x:=by rw [← ss];exact boxW_new _ x _
    obtain ⟨y0,y1,y2,y3,y4,g0,g1,g2,g3,g4⟩:=zb2.facts
    have s3:wr.heap.size < ((wr.setCell ⟨b,3,none⟩ (.int .i64 (q+1))).alloc (.cells #[.string x.key,.string x.val,.bool x.gone] 42)).heap.size:=by simp
    have hBW:B≤((wr.setCell ⟨b,3,none⟩ (.int .i64 (q+1))).alloc (.cells #[.string x.key,.string x.val,.bool x.gone] 42)).heap.size:=by have:=HT.out.size;simp;omega
    clear zs hms bs ss
    clear ZB HM HT hx1 bb zb2 hc
    go_wp2_with fail
    generalize (wr.setCell ⟨b,3,none⟩ (.int .i64 (q+1))).alloc (.cells #[.string x.key,.string x.val,.bool x.gone] 42)=W3 at zb3 hm3 T3 x3 s3 hBW ⊢
    clear y0 y1 y2 y3 y4 g0 g1 g2 g3 g4 c0 c1 c2
    obtain ⟨y0,y1,y2,y3,y4,g0,g1,g2,g3,g4⟩:=zb3.facts
    refine wp_region_noPanic ?_
    refine wp_region_held_drew (S:=fun w'=>w'.cell? ⟨b,3,none⟩=some (.int .i64 (q+1))∧w'.cell? ⟨wr.heap.size,0,none⟩=some (.string x.key)∧w'.cell? ⟨wr.heap.size,1,none⟩=some (.string x.val)∧w'.cell? ⟨wr.heap.size,2,none⟩=some (.bool x.gone)) (by kernel_rfl) ⟨y3,x3⟩ (fun hH=>?_)
    have hwb:wr.heap.size≠b:=by omega
    have dd:Below W3.heap.size W3 W3.drew:=(Below.refl _ W3).drew
    have zbV:=zb3.on dd
    have hmV:=hm3.below dd
    have TV:=T3.trans (Touch.of_below dd)
    have xV:BoxW W3.drew wr.heap.size x:=x3
    have sV:wr.heap.size < W3.drew.heap.size:=s3
    have hBV:B≤W3.drew.heap.size:=hBW
    clear zb3 hm3 T3 x3 s3 hBW dd y0 y1 y2 y3 y4 g0 g1 g2 g3 g4
    revert hH zbV hmV TV xV sV hBV
    generalize W3.drew=V
    intro hH zbV hmV TV xV sV hBV
    obtain ⟨y0,y1,y2,y3,y4,g0,g1,g2,g3,g4⟩:=zbV.facts
    refine kA 0 50 hH ?_
    refine kA 1 51 hH ?_
    refine kA 2 52 hH ?_
    refine kA 3 53 hH ?_
    refine kA 5 55 hH ?_
    refine kA 6 56 hH ?_
    refine kA 7 57 hH ?_
    refine kA 8 58 hH ?_
    refine kA 9 59 hH ?_
    refine kA 10 60 hH ?_
    refine kA 11 61 hH ?_
    refine kA 12 62 hH ?_
    refine kA 13 63 hH ?_
    refine kA 14 64 hH ?_
    refine kA 15 65 hH ?_
    refine wpAnyH_ready (rs:=[4]) (by kernel_rfl) (by simp) ?_
    refine AllReadyH.cons rfl (fun K hK=>?_) AllReadyH.nil
    go_simp
    refine hK.out _ _ hH (fun hH2=>?_)
    clear hK K hH
    try simp only [Act.put,sA,sZ,sS]
    refine wpAnyH_ready (rs:=[16]) (by kernel_rfl) (by simp) ?_
    refine AllReadyH.cons rfl (fun K hK=>?_) AllReadyH.nil
    go_simp
    refine (l3Put_any (.slice au un cu) U.mem (wriE x (q+1)) _ hmV.rd (by have:=HLN.out;omega)).mono ?_
    rintro e w5 ⟨u,rfl,hu,hb5⟩
    have zb5:=zbV.on hb5
    have T5:=TV.trans (Touch.of_below hb5)
    have x5:BoxW w5 wr.heap.size x:=⟨(hb5.cell (p:=⟨wr.heap.size,0,none⟩) sV).trans xV.1,(hb5.cell (p:=⟨wr.heap.size,1,none⟩) sV).trans xV.2.1,(hb5.cell (p:=⟨wr.heap.size,2,none⟩) sV).trans xV.2.2⟩
    have hu5:OwnE w5 B u (insE U.mem (wriE x (q+1))):=OwnE.mono hu hBV
    obtain ⟨av,cv,hvv,-⟩:=id hu.rd
    generalize (insE U.mem (wriE x (q+1))).length=vn at hvv
    subst hvv
    obtain ⟨k0,k1,k2,k3,k4,l0,l1,l2,l3,l4⟩:=zb5.facts
    refine hK.out _ _ ⟨k3,x5⟩ (fun hH3=>?_)
    clear hK K hH2 zbV hmV TV xV hu hb5 y0 y1 y2 y3 y4 g0 g1 g2 g3 g4
    try simp only [Act.put,sA,sZ,sS]
    refine kA 17 67 hH3 ?_
    refine kA 18 68 hH3 ?_
    have zb6:=boxTr_set0 zb5 (.slice av vn cv)
    have hm6:OwnE (w5.setCell ⟨b,0,none⟩ (.slice av vn cv)) B (.slice av vn cv) (insE U.mem (wriE x (q+1))):=row_set hu5 (boxTr_rowne zb5 hu5 (by decide))
    have T6:Touch [b] w (w5.setCell ⟨b,0,none⟩ (.slice av vn cv)):=T5.trans (Touch.set (by simp))
    have x6:BoxW (w5.setCell ⟨b,0,none⟩ (.slice av vn cv)) wr.heap.size x:=⟨(World.cell?_setCell_other _ _ _ _ (by intro e;have e2:=congrArg Addr.block e;simp only at e2;omega)).trans x5.1,(World.cell?_setCell_other _ _ _ _ (by intro e;have e2:=congrArg Addr.block e;simp only at e2;omega)).trans x5.2.1,(World.cell?_setCell_other _ _ _ _ (by intro e;have e2:=congrArg Addr.block e;simp only at e2;omega)).trans x5.2.2⟩
    have hM6:Hid (OwnE (w5.setCell ⟨b,0,none⟩ (.slice av vn cv)) B (.slice av vn cv) (putAll T (xs.take (k+1))).mem):=by
     unfold Hid
     rw [HSN.out]
     show OwnE _ B _ (insE U.mem (wriE x (U.seq+1)))
     rw [← HQ.out]
     exact hm6
    have hQ6:Hid (q+1=(putAll T (xs.take (k+1))).seq):=by unfold Hid;rw [HSN.out,HQ.out];rfl
    obtain ⟨-,-,-,p3,-⟩:=zb6.facts
    refine wpAnyH_ready (rs:=[19]) (by kernel_rfl) (by simp) ?_
    refine AllReadyH.cons rfl (fun K hK=>?_) AllReadyH.nil
    go_simp
    refine hK.out _ _ ⟨p3,x6⟩ (fun hH4=>?_)
    clear hK K hH3 hH4 x6 p3 k0 k1 k2 k3 k4 l0 l1 l2 l3 l4 x5 hm6 zb5 T5 hu5
    refine wpAnyH_done (by kernel_rfl) ?_ _
    refine NoPanic.normal ?_
    generalize w5.setCell ⟨b,0,none⟩ (.slice av vn cv)=W6 at zb6 T6 hM6 ⊢
    go_wp2
    go_roundw
    case rel=>exact ⟨k+1,_,q+1,by omega,by go_num,zb6,hQ6,hM6,T6⟩
    case measure=>simp [intOf];omega
   ·have hke:k=n:=by omega
    have END:Hid (WrotePost w b B vy vo vs M Q0 ok (.returned (.bool true)) wr):=by
     have e:xs.take k=xs:=by rw [hke,HN.out,List.take_length]
     have h1:=HQ.out
     have h2:=HM.out
     rw [e] at h1 h2
     rw [HM1.out,HQ1.out,HOK1.out,← h1]
     exact ⟨rfl,⟨_,ZB.out,h2⟩,HT.out⟩
    clear hke ZB HQ HM HT
    go_wp2
    go_ret
    exact END.out
open Go.RowKit
def SWrotePost (w:World) (X:TrX) (xs:List Wri) (e:Ending) (w':World):Prop :=
 ∃ Y:TrX,e=.returned (.tuple #[.agg #[Y.vm,Y.vy,Y.vo,.int .i64 Y.seq,Y.vs],.bool (wroteO X.tre xs)])∧Y.tre=wroteR X.tre xs∧RowsTr w' w.heap.size Y∧Below w.heap.size w w'
theorem specWrote_any (X:TrX) (v:Value) (xs:List Wri) (w:World) (hx:RdTr w X) (hf:FitTr X) (hs:treeOk X.tre=true→SizTr X) (hw:RdW w v xs) (hfw:∀ x∈xs,FitsW x) :
 Calls Tryz.prog 11 #[.agg #[X.vm,X.vy,X.vo,.int .i64 X.seq,X.vs],v] w fun e w'=>SWrotePost w X xs e w':=by
 have HTK:Hid (∀ W,RdTr W X→Calls Tryz.prog 14 #[.agg #[X.vm,X.vy,X.vo,.int .i64 X.seq,X.vs]] W fun e w'=>e=.returned (.bool (treeOk X.tre))∧Below W.heap.size W w'):=fun W h=>specTreeOk_any X W h hf
 have HCP:Hid (treeOk X.tre=true→∀ W,RdTr W X→Calls Tryz.prog 43 #[.agg #[X.vm,X.vy,X.vo,.int .i64 X.seq,X.vs]] W fun e w'=>CopyPost W X e w'):=fun ht W h=>l7Copy_any X W h (hs ht)
 clear hs hf
 have t0:=treAt_new w X 28
 obtain ⟨V0,hV0⟩:∃ V0,V0=w.alloc (.cells #[X.vm,X.vy,X.vo,.int .i64 X.seq,X.vs] 28):=⟨_,rfl⟩
 have b0:Below w.heap.size w V0:=by rw [hV0];exact below1 w _
 have s0:V0.heap.size=w.heap.size+1:=by rw [hV0];simp
 rw [← hV0] at t0
 have z1:=boxTr_new V0 (.slice none 0 0) (.slice none 0 0) (.slice none 0 0) (.slice none 0 0) 0
 obtain ⟨W0,hW0⟩:∃ W0,W0=V0.alloc (.cells #[.slice none 0 0,.slice none 0 0,.slice none 0 0,.int .i64 0,.slice none 0 0] 28):=⟨_,rfl⟩
 have b1:Below V0.heap.size V0 W0:=by rw [hW0];exact below1 V0 _
 have s1:W0.heap.size=w.heap.size+2:=by rw [hW0];simp;omega
 rw [← hW0,s0] at z1
 have t1:=t0.below b1
 have bw:Below w.heap.size w W0:=b0.trans (b1.mono (by omega))
 have HW0:Hid ((w.alloc (.cells #[X.vm,X.vy,X.vo,.int .i64 X.seq,X.vs] 28)).alloc (.cells #[.slice none 0 0,.slice none 0 0,.slice none 0 0,.int .i64 0,.slice none 0 0] 28)=W0):=by unfold Hid;rw [hW0,hV0]
 obtain ⟨q0,q1,q2,q3,q4⟩:=id t1
 rw [hW0,hV0] at q0 q1 q2 q3 q4
 clear t0 b0 b1 s0 hV0 hW0
 go_enter Tryz.func11,Tryz.ntmps11
 go_wp2_with fail
 rw [HW0.out]
 clear q0 q1 q2 q3 q4
 refine (HTK.out _ (hx.below bw)).mono ?_
 rintro e w1 ⟨rfl,hb1⟩
 have t2:=t1.below hb1
 have z2:=z1.on hb1
 have bw1:=bw.trans (hb1.mono bw.size)
 have s2:w.heap.size+2≤w1.heap.size:=by rw [← s1];exact hb1.size
 clear t1 z1 bw hb1 s1 HTK HW0
 cases htk:treeOk X.tre with
 | false =>
  obtain ⟨y0,y1,y2,y3,y4,g0,g1,g2,g3,g4⟩:=z2.facts
  have hzF:=boxTr_put5 z2 (.slice none 0 0) (.slice none 0 0) (.slice none 0 0) (.slice none 0 0) 0
  obtain ⟨f0,f1,f2,f3,f4,-⟩:=hzF.facts
  have END:Hid (SWrotePost w X xs (.returned (.tuple #[.agg #[.slice none 0 0,.slice none 0 0,.slice none 0 0,.int .i64 0,.slice none 0 0],.bool false])) (put5 w1 (w.heap.size+1) (.slice none 0 0) (.slice none 0 0) (.slice none 0 0) (.int .i64 0) (.slice none 0 0))):=by
   have h0:=ownTree_zero (put5 w1 (w.heap.size+1) (.slice none 0 0) (.slice none 0 0) (.slice none 0 0) (.int .i64 0) (.slice none 0 0)) w.heap.size
   refine ⟨⟨.slice none 0 0,.slice none 0 0,.slice none 0 0,.slice none 0 0,[],[],[],0,[]⟩,by unfold wroteO;rw [htk];rfl,by unfold wroteR;rw [if_neg (by rw [htk];simp)];rfl,⟨h0.mem,h0.young,h0.youngs,h0.old,h0.olds,h0.snaps⟩,below_put5 bw1 (by omega)⟩
  unfold put5 at f0 f1 f2 f3 f4
  clear z2 t2 hzF bw1 htk
  go_wp2
  exact bodyPost_ret (v:=.tuple #[.agg #[.slice none 0 0,.slice none 0 0,.slice none 0 0,.int .i64 0,.slice none 0 0],.bool false]) (by simp [results,Tryz.results11,go_sem,f0,f1,f2,f3,f4]) rfl END.out
 | true =>
  obtain ⟨q0,q1,q2,q3,q4⟩:=id t2
  go_wp2_with fail
  refine (HCP.out htk _ (hx.below bw1)).mono ?_
  rintro e w2 ⟨Y,rfl,heY,hoY,hb2⟩
  have t3:=t2.below hb2
  have z3:=z2.on hb2
  have bw2:=bw1.trans (hb2.mono bw1.size)
  have s3:=hb2.size
  have HRW:Hid (RowsTr w2 w1.heap.size Y):=⟨hoY.mem,hoY.young,hoY.youngs,hoY.old,hoY.olds,hoY.snaps⟩
  clear q0 q1 q2 q3 q4 t2 z2 hb2 bw1 HCP
  obtain ⟨am,ay,ao,an,mn,yn,on,nn,cm,cy,co,cn,v0,v1,v2,v3⟩:=HRW.out.rd.slices
  obtain ⟨vm4,vy4,vo4,vs4,mem4,ys4,os4,seq4,snaps4⟩:=Y
  simp only at v0 v1 v2 v3
  subst v0
  subst v1
  subst v2
  subst v3
  clear hoY
  have HMY:Hid (mem4=X.tre.mem):=congrArg Tre.mem heY
  have HQY:Hid (seq4=X.tre.seq):=congrArg Tre.seq heY
  have HEY:Hid (_=_):=heY
  clear heY
  have zb:=boxTr_new w2 (.slice am mn cm) (.slice ay yn cy) (.slice ao on co) (.slice an nn cn) seq4
  have bb:=below1 w2 (.cells #[.slice am mn cm,.slice ay yn cy,.slice ao on co,.int .i64 seq4,.slice an nn cn] 28)
  have z4:=z3.on bb
  have bw3:=bw2.trans (bb.mono bw2.size)
  have hr3:=HRW.out.below bb
  have UB:Hid (∀ k∈trB (⟨.slice am mn cm,.slice ay yn cy,.slice ao on co,.slice an nn cn,mem4,ys4,os4,seq4,snaps4⟩:TrX),w1.heap.size≤k∧k < w2.heap.size):=fun k hk=>HRW.out.bound hk
  have s4:w2.heap.size < (w2.alloc (.cells #[.slice am mn cm,.slice ay yn cy,.slice ao on co,.int .i64 seq4,.slice an nn cn] 28)).heap.size:=by simp
  have hTP:=(treeOk_iff X.tre).1 htk
  clear HRW bb bw2
  go_wp2_with fail
  generalize w2.alloc (.cells #[.slice am mn cm,.slice ay yn cy,.slice ao on co,.int .i64 seq4,.slice an nn cn] 28)=W3 at zb z4 bw3 hr3 s4 ⊢
  have H1:∀ k∈[w2.heap.size],k=w2.heap.size:=fun k hk=>by simpa using hk
  have HRT:Hid (∀ w',Touch [w2.heap.size] W3 w'→RdW w' v xs):=fun w' ht=>hw.below (ht.below bw3 (fun k hk=>by have:=H1 k hk;omega))
  refine (l7Wrote_any X.tre (.slice am mn cm) (.slice ay yn cy) (.slice ao on co) (.slice an nn cn) w2.heap.size w1.heap.size v xs _ (by rw [← HQY.out];exact zb) (by rw [← HMY.out];exact hr3.mem) (by omega) hTP (hw.below bw3) HRT.out hfw).mono ?_
  rintro e w5 ⟨rfl,⟨vm',zb5,hm5⟩,hto⟩
  have hr5:=hr3.touch hto (fun k hk e=>by have:=UB.out k hk;have:=H1 k e;omega)
  have bw5:Below w.heap.size w w5:=hto.below bw3 (fun k hk=>by have:=H1 k hk;omega)
  have z5:BoxTr w5 (w.heap.size+1) (.slice none 0 0) (.slice none 0 0) (.slice none 0 0) 0 (.slice none 0 0):=(hto.block _ (by omega) (fun e=>by have:=H1 _ e;omega)).trans z4
  obtain ⟨M,hM⟩:∃ M,M=if roomFor X.tre xs=true then (putAll X.tre xs).mem else X.tre.mem:=⟨_,rfl⟩
  obtain ⟨Q0,hQ0⟩:∃ Q0,Q0=if roomFor X.tre xs=true then (putAll X.tre xs).seq else X.tre.seq:=⟨_,rfl⟩
  obtain ⟨ok,hok⟩:∃ ok,ok=roomFor X.tre xs:=⟨_,rfl⟩
  rw [← hM] at hm5
  rw [← hQ0] at zb5
  rw [← hok]
  have HFIN:Hid (ok=wroteO X.tre xs∧(⟨M,ys4.map (·.T),os4.map (·.T),Q0,snaps4⟩:Tre)=wroteR X.tre xs):=by
   unfold Hid wroteO wroteR
   rw [htk,if_pos rfl,Bool.true_and]
   refine ⟨hok,?_⟩
   have e1:ys4.map (·.T)=X.tre.young:=congrArg Tre.young HEY.out
   have e2:os4.map (·.T)=X.tre.old:=congrArg Tre.old HEY.out
   have e3:snaps4=X.tre.snaps:=congrArg Tre.snaps HEY.out
   have e4:=putAll_rest X.tre xs
   rw [e1,e2,e3,hM,hQ0]
   by_cases h:roomFor X.tre xs=true
   ·rw [if_pos h,if_pos h,if_pos h,← e4.1,← e4.2.1,← e4.2.2]
   ·rw [if_neg h,if_neg h,if_neg h]
  obtain ⟨av,cv,hvv,-⟩:=id hm5.rd
  generalize M.length=vn at hvv
  subst hvv
  obtain ⟨y0,y1,y2,y3,y4,g0,g1,g2,g3,g4⟩:=zb5.facts
  obtain ⟨m0,m1,m2,m3,m4,n0,n1,n2,n3,n4⟩:=z5.facts
  have hzF:=boxTr_put5 z5 (.slice av vn cv) (.slice ay yn cy) (.slice ao on co) (.slice an nn cn) Q0
  obtain ⟨f0,f1,f2,f3,f4,-⟩:=hzF.facts
  have END:Hid (SWrotePost w X xs (.returned (.tuple #[.agg #[.slice av vn cv,.slice ay yn cy,.slice ao on co,.int .i64 Q0,.slice an nn cn],.bool ok])) (put5 w5 (w.heap.size+1) (.slice av vn cv) (.slice ay yn cy) (.slice ao on co) (.int .i64 Q0) (.slice an nn cn))):=by
   have hc:w.heap.size+1 < w1.heap.size:=by omega
   refine ⟨⟨.slice av vn cv,.slice ay yn cy,.slice ao on co,.slice an nn cn,M,ys4,os4,Q0,snaps4⟩,by rw [HFIN.out.1],HFIN.out.2,RowsTr.mono (lo:=w1.heap.size) ⟨row_put5 hm5 hc,row_put5 hr5.young hc,hr5.youngs.put5 hc,row_put5 hr5.old hc,hr5.olds.put5 hc,row_put5 hr5.snaps hc⟩ (by omega),below_put5 bw5 (by omega)⟩
  unfold put5 at f0 f1 f2 f3 f4
  clear hM hQ0 hok HFIN HEY hzF zb5 z5 bw5 hr5 hm5 hto HRT hTP hr3 zb z4 bw3
  go_wp2
  exact bodyPost_ret (v:=.tuple #[.agg #[.slice av vn cv,.slice ay yn cy,.slice ao on co,.int .i64 Q0,.slice an nn cn],.bool ok]) (by simp [results,Tryz.results11,go_sem,f0,f1,f2,f3,f4]) rfl END.out
end Go.Proofs.YtmlmlemiidedcaaGreat
