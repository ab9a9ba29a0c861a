import Derived.WalkKit
import Derived.Test.YtmlmlemiidedcaaGreatG00
import Derived.Deep.RegionLaw
import Derived.BigQuiet
import Derived.Laws.Cover1
import Derived.Deep.RegionWith
import Derived.Deep.RegionHeld3
namespace Go.Proofs.YtmlmlemiidedcaaGreat
set_option maxHeartbeats 16000000
set_option maxRecDepth 100000
structure Ent where
 key:ByteArray
 val:ByteArray
 seq:Int
 gone:Bool
deriving DecidableEq
instance:Inhabited Ent:=⟨⟨ByteArray.empty,ByteArray.empty,0,false⟩⟩
def nth (es:List Ent) (i:Nat):Ent:=es.getD i default
theorem nth_eq {es:List Ent} {i:Nat} (h:i < es.length):nth es i=es[i]:=by simp [nth,List.getD,List.getElem?_eq_getElem h]
theorem nth_zero (a:Ent) (r:List Ent):nth (a::r) 0=a:=rfl
theorem nth_succ (a:Ent) (r:List Ent) (i:Nat):nth (a::r) (i+1)=nth r i:=by simp [nth,List.getD]
def kEq (a b:ByteArray):Bool:=decide (a=b)
def kLt (a b:ByteArray):Bool:=Op.bytesLess a.toList b.toList
theorem bl_irrefl:∀ x:List UInt8,Op.bytesLess x x=false
 | []=>rfl
 | a::x=>by simp [Op.bytesLess,bl_irrefl x,UInt8.lt_irrefl]
theorem bl_trans:∀ x y z:List UInt8,Op.bytesLess x y=true→Op.bytesLess y z=true→Op.bytesLess x z=true
 | _,[],_,h,_=>by simp [Op.bytesLess] at h
 | _,_::_,[],_,h=>by simp [Op.bytesLess] at h
 | [],_::_,_::_,_,_=>rfl
 | a::x,b::y,c::z,h,k=>by
  simp only [Op.bytesLess,Bool.or_eq_true,decide_eq_true_eq,Bool.and_eq_true,beq_iff_eq] at h k ⊢
  rcases h with h | ⟨h,h'⟩<;>rcases k with k | ⟨k,k'⟩
  ·exact .inl (UInt8.lt_trans h k)
  ·subst k;exact .inl h
  ·subst h;exact .inl k
  ·subst h;subst k;exact .inr ⟨rfl,bl_trans x y z h' k'⟩
theorem bl_tri:∀ x y:List UInt8,Op.bytesLess x y=false→Op.bytesLess y x=false→x=y
 | [],[],_,_=>rfl
 | [],_::_,h,_=>by simp [Op.bytesLess] at h
 | _::_,[],_,h=>by simp [Op.bytesLess] at h
 | a::x,b::y,h,k=>by
  simp only [Op.bytesLess,Bool.or_eq_false_iff,decide_eq_false_iff_not,Bool.and_eq_false_iff,decide_eq_false_iff_not] at h k
  have hab:a=b:=by
   apply UInt8.toNat_inj.1
   have h1:=h.1;have k1:=k.1
   rw [UInt8.lt_iff_toNat_lt] at h1 k1
   omega
  subst hab
  rcases h.2 with h2 | h2
  ·simp at h2
  ·rcases k.2 with k2 | k2
   ·simp at k2
   ·rw [bl_tri x y h2 k2]
theorem ba_toList_inj {a b:ByteArray} (h:a.toList=b.toList):a=b:=by
 have e:∀ c:ByteArray,c.toList=c.data.toList:=fun c=>ByteArray.toList_eq c
 rw [e,e] at h
 cases a;cases b;simp_all
theorem kLt_irrefl (a:ByteArray):kLt a a=false:=bl_irrefl _
theorem kLt_trans {a b c:ByteArray} (h:kLt a b=true) (k:kLt b c=true):kLt a c=true:=bl_trans _ _ _ h k
theorem kLt_tri {a b:ByteArray} (h:kLt a b=false) (k:kLt b a=false):a=b:=ba_toList_inj (bl_tri _ _ h k)
def ahd (a b:Ent):Bool:=kLt a.key b.key || (kEq a.key b.key && decide (b.seq < a.seq))
def sameKS (a b:Ent):Bool:=kEq a.key b.key && decide (a.seq=b.seq)
theorem ahd_iff (a b:Ent):ahd a b=true↔kLt a.key b.key=true∨(a.key=b.key∧b.seq < a.seq):=by simp [ahd,kEq]
theorem ahd_trans {a b c:Ent} (h:ahd a b=true) (k:ahd b c=true):ahd a c=true:=by
 rw [ahd_iff] at h k ⊢
 rcases h with h | ⟨h,h'⟩<;>rcases k with k | ⟨k,k'⟩
 ·exact .inl (kLt_trans h k)
 ·exact .inl (k ▸ h)
 ·exact .inl (h ▸ k)
 ·exact .inr ⟨h.trans k,by omega⟩
theorem ahd_irrefl (a:Ent):ahd a a=false:=by simp [ahd,kEq,kLt_irrefl]
theorem ahd_tri {a b:Ent} (h:ahd a b=false) (k:sameKS a b=false):ahd b a=true:=by
 rw [ahd_iff]
 have h1:kLt a.key b.key=false:=by cases e:kLt a.key b.key with | false=>rfl | true=>simp [ahd,kEq,e] at h
 cases e:kLt b.key a.key with
 | true=>exact .inl rfl
 | false =>
  have hk:=kLt_tri h1 e
  refine .inr ⟨hk.symm,?_⟩
  simp [ahd,kEq,hk,kLt_irrefl] at h
  simp [sameKS,kEq,hk] at k
  omega
def cmpK (a b:ByteArray):Int:=if kLt a b=true then -1 else if kLt b a=true then 1 else 0
def cmpI (a b:Int):Int:=if a < b then -1 else if b < a then 1 else 0
def ordE (a b:Ent):Int:=if cmpK a.key b.key≠0 then cmpK a.key b.key else cmpI b.seq a.seq
theorem cmpK_neg (a b:ByteArray):cmpK a b < 0↔kLt a b=true:=by unfold cmpK;split<;>(try split)<;>simp_all
theorem cmpK_zero (a b:ByteArray):cmpK a b=0↔a=b:=by
 unfold cmpK
 constructor
 ·intro h
  split at h
  ·omega
  ·split at h
   ·omega
   ·exact kLt_tri (by simp_all) (by simp_all)
 ·rintro rfl;simp [kLt_irrefl]
theorem ordE_neg (a b:Ent):ordE a b < 0↔ahd a b=true:=by
 rw [ahd_iff]
 unfold ordE
 by_cases h:cmpK a.key b.key=0
 ·rw [if_neg (by simp [h])]
  have hk:=(cmpK_zero _ _).1 h
  rw [hk]
  unfold cmpI
  split
  ·simp_all
  ·simp [kLt_irrefl];split<;>omega
 ·rw [if_pos h,cmpK_neg]
  have hk:a.key≠b.key:=fun e=>h ((cmpK_zero _ _).2 e)
  simp [hk]
theorem ordE_zero (a b:Ent):ordE a b=0↔sameKS a b=true:=by
 unfold ordE sameKS
 by_cases h:cmpK a.key b.key=0
 ·rw [if_neg (by simp [h])]
  have hk:=(cmpK_zero _ _).1 h
  simp only [hk,kEq,decide_true,Bool.true_and,decide_eq_true_eq]
  unfold cmpI
  split
  ·omega
  ·split<;>omega
 ·rw [if_pos h]
  have hk:a.key≠b.key:=fun e=>h ((cmpK_zero _ _).2 e)
  simp [kEq,hk,h]
def okE (e:Ent):Bool:=decide (1≤e.key.size) && decide (e.key.size≤40) && decide (e.val.size≤200) && (!e.gone || decide (e.val.size=0)) && decide (1≤e.seq) && decide (e.seq≤1000000)
def okAt (es:List Ent) (i:Nat):Bool:=okE (nth es i) && (decide (i=0) || ahd (nth es (i - 1)) (nth es i))
def okTo (es:List Ent) (k:Nat):Bool:=(List.range k).all (okAt es)
def okL (es:List Ent):Bool:=decide (es.length≤300) && okTo es es.length
theorem okTo_succ (es:List Ent) (k:Nat):okTo es (k+1)=(okTo es k && okAt es k):=by simp [okTo,List.range_succ]
theorem okTo_at {es:List Ent} {k i:Nat} (h:okTo es k=true) (hi:i < k):okAt es i=true:=by
 rw [okTo,List.all_eq_true] at h;exact h i (List.mem_range.2 hi)
theorem okTo_no {es:List Ent} {k i:Nat} (hi:i < k) (h:okAt es i=false):okTo es k=false:=by
 cases e:okTo es k with
 | false=>rfl
 | true=>rw [okTo_at e hi] at h;cases h
theorem okL_no_at {es:List Ent} {i:Nat} (hi:i < es.length) (h:okAt es i=false):okL es=false:=by
 unfold okL;rw [okTo_no hi h];simp
theorem okL_len {es:List Ent} (h:okL es=true):es.length≤300:=by simp [okL] at h;exact h.1
theorem okL_to {es:List Ent} (h:okL es=true):okTo es es.length=true:=by simp [okL] at h;exact h.2
theorem okL_ent {es:List Ent} (h:okL es=true) {i:Nat} (hi:i < es.length):okE (nth es i)=true:=by
 have:=okTo_at (okL_to h) hi;simp [okAt] at this;exact this.1
theorem okL_next {es:List Ent} (h:okL es=true) {i:Nat} (hi:i+1 < es.length):ahd (nth es i) (nth es (i+1))=true:=by
 have:=okTo_at (okL_to h) hi;simp [okAt] at this;simpa using this.2
theorem okL_lt {es:List Ent} (h:okL es=true):∀ (d i:Nat),i+d+1 < es.length→ahd (nth es i) (nth es (i+d+1))=true
 | 0,i,hi=>okL_next h hi
 | d+1,i,hi=>ahd_trans (okL_lt h d i (by omega)) (okL_next h hi)
theorem okL_ij {es:List Ent} (h:okL es=true) {i j:Nat} (hij:i < j) (hj:j < es.length):ahd (nth es i) (nth es j)=true:=by
 obtain ⟨d,rfl⟩:∃ d,j=i+d+1:=⟨j - i - 1,by omega⟩
 exact okL_lt h d i hj
theorem okL_iff (es:List Ent):okL es=true↔es.length≤300∧(∀ e∈es,okE e=true)∧es.Pairwise (fun a b=>ahd a b=true):=by
 constructor
 ·intro h
  refine ⟨okL_len h,fun e he=>?_,?_⟩
  ·obtain ⟨i,hi,rfl⟩:=List.getElem_of_mem he
   have:=okL_ent h hi
   rwa [nth_eq hi] at this
  ·rw [List.pairwise_iff_getElem]
   intro i j hi hj hij
   have:=okL_ij h hij hj
   rwa [nth_eq hi,nth_eq hj] at this
 ·rintro ⟨h1,h2,h3⟩
  rw [List.pairwise_iff_getElem] at h3
  simp only [okL,okTo,Bool.and_eq_true,decide_eq_true_eq,List.all_eq_true,List.mem_range]
  refine ⟨h1,fun i hi=>?_⟩
  simp only [okAt,Bool.and_eq_true,Bool.or_eq_true,decide_eq_true_eq]
  refine ⟨by rw [nth_eq hi];exact h2 _ (List.getElem_mem hi),?_⟩
  by_cases h0:i=0
  ·exact .inl h0
  ·right
   rw [nth_eq hi,nth_eq (show i - 1 < es.length by omega)]
   exact h3 _ _ (by omega) hi (by omega)
def atE (es:List Ent) (t:Ent):Nat:=(es.takeWhile (fun a=>ahd a t)).length
theorem atE_le (es:List Ent) (t:Ent):atE es t≤es.length:=by
 unfold atE;exact (List.takeWhile_sublist _).length_le
theorem tw_get (p:Ent→Bool):∀ (es:List Ent) (i:Nat),i < (es.takeWhile p).length→p (nth es i)=true
 | [],i,h=>by simp at h
 | a::r,i,h=>by
  rw [List.takeWhile_cons] at h
  split at h
  ·rename_i ha
   match i,h with
   | 0,_=>exact ha
   | i+1,h=>rw [nth_succ];exact tw_get p r i (by simpa using h)
  ·simp at h
theorem tw_stop (p:Ent→Bool):∀ (es:List Ent),(es.takeWhile p).length < es.length→p (nth es ((es.takeWhile p).length))=false
 | [],h=>by simp at h
 | a::r,h=>by
  rw [List.takeWhile_cons] at h ⊢
  split at h
  ·rename_i ha
   rw [if_pos ha]
   rw [List.length_cons,nth_succ];exact tw_stop p r (by simpa using h)
  ·rename_i ha
   rw [if_neg ha]
   rw [List.length_nil,nth_zero];simpa using ha
theorem atE_lo (es:List Ent) (t:Ent) {i:Nat} (h:i < atE es t):ahd (nth es i) t=true:=tw_get _ es i h
theorem atE_hi {es:List Ent} (hs:okL es=true) (t:Ent) {i:Nat} (h:atE es t≤i) (hi:i < es.length):ahd (nth es i) t=false:=by
 have h0:=tw_stop (fun a=>ahd a t) es (show atE es t < es.length by omega)
 change ahd (nth es (atE es t)) t=false at h0
 by_cases he:atE es t=i
 ·rw [← he];exact h0
 ·cases e:ahd (nth es i) t with
  | false=>rfl
  | true=>rw [ahd_trans (okL_ij hs (by omega) hi) e] at h0;cases h0
theorem atE_scan (es:List Ent) (t:Ent) (k:Nat) (hk:k≤es.length) (h1:∀ i,i < k→ahd (nth es i) t=true) (h2:k < es.length→ahd (nth es k) t=false):atE es t=k:=by
 have h3:=atE_le es t
 rcases Nat.lt_trichotomy (atE es t) k with h | h | h
 ·have:=tw_stop (fun a=>ahd a t) es (show atE es t < es.length by omega)
  change ahd (nth es (atE es t)) t=false at this
  rw [h1 _ h] at this;cases this
 ·exact h
 ·have:=atE_lo es t h
  rw [h2 (by omega)] at this;cases this
def insE (es:List Ent) (e:Ent):List Ent:=es.take (atE es e)++e::es.drop (atE es e)
def hasKS (es:List Ent) (e:Ent):Bool:=es.any (fun a=>sameKS a e)
def putOk (es:List Ent) (e:Ent):Bool:=okL es && okE e && !decide (es.length=300) && !hasKS es e
def putL (es:List Ent) (e:Ent):List Ent:=if putOk es e=true then insE es e else []
theorem insE_length (es:List Ent) (e:Ent):(insE es e).length=es.length+1:=by
 have:=atE_le es e
 simp [insE];omega
theorem has_at {es:List Ent} (hs:okL es=true) (t:Ent):hasKS es t=(decide (atE es t < es.length) && sameKS (nth es (atE es t)) t):=by
 rw [Bool.eq_iff_iff]
 simp only [hasKS,List.any_eq_true,Bool.and_eq_true,decide_eq_true_eq]
 constructor
 ·rintro ⟨a,ha,hk⟩
  obtain ⟨i,hi,rfl⟩:=List.getElem_of_mem ha
  have hk':sameKS (nth es i) t=true:=by rw [nth_eq hi];exact hk
  have hna:ahd (nth es i) t=false:=by
   simp [sameKS,kEq] at hk'
   simp [ahd,kEq,hk'.1,hk'.2,kLt_irrefl]
  have hle:atE es t≤i:=by
   rcases Nat.lt_or_ge i (atE es t) with h | h
   ·rw [atE_lo es t h] at hna;cases hna
   ·exact h
  by_cases he:atE es t=i
  ·exact ⟨by omega,by rw [he];exact hk'⟩
  ·exfalso
   have h1:=okL_ij hs (show atE es t < i by omega) hi
   have h2:=atE_hi hs t (Nat.le_refl _) (show atE es t < es.length by omega)
   have h3:ahd (nth es (atE es t)) t=ahd (nth es (atE es t)) (nth es i):=by
    simp [sameKS,kEq] at hk'
    simp [ahd,kEq,hk'.1,hk'.2]
   rw [h3,h1] at h2;cases h2
 ·rintro ⟨h1,h2⟩
  exact ⟨nth es (atE es t),by rw [nth_eq h1];exact List.getElem_mem h1,h2⟩
theorem insE_ok {es:List Ent} {e:Ent} (h:putOk es e=true):okL (insE es e)=true:=by
 simp only [putOk,Bool.and_eq_true,Bool.not_eq_true',decide_eq_false_iff_not] at h
 obtain ⟨⟨⟨hs,he⟩,hn⟩,hh⟩:=h
 have hl:=okL_len hs
 rw [okL_iff]
 obtain ⟨h1,h2,h3⟩:=(okL_iff es).1 hs
 refine ⟨by rw [insE_length];omega,?_,?_⟩
 ·intro a ha
  simp only [insE,List.mem_append,List.mem_cons] at ha
  rcases ha with ha | rfl | ha
  ·exact h2 a (List.mem_of_mem_take ha)
  ·exact he
  ·exact h2 a (List.mem_of_mem_drop ha)
 ·have hA:∀ a∈es.take (atE es e),ahd a e=true:=by
   intro a ha
   obtain ⟨i,hi,rfl⟩:=List.getElem_of_mem ha
   rw [List.length_take] at hi
   have:=atE_lo es e (show i < atE es e by omega)
   rw [nth_eq (by omega)] at this
   rw [List.getElem_take]
   exact this
  have hB:∀ b∈es.drop (atE es e),ahd e b=true:=by
   intro b hb
   obtain ⟨i,hi,rfl⟩:=List.getElem_of_mem hb
   rw [List.length_drop] at hi
   rw [List.getElem_drop]
   have h4:=atE_hi hs e (show atE es e≤atE es e+i by omega) (by omega)
   rw [nth_eq (by omega)] at h4
   refine ahd_tri h4 ?_
   cases hk:sameKS (es[atE es e+i]'(by omega)) e with
   | false=>rfl
   | true =>
    have:hasKS es e=true:=by
     simp only [hasKS,List.any_eq_true]
     exact ⟨_,List.getElem_mem (by omega),hk⟩
    rw [this] at hh;cases hh
  unfold insE
  rw [List.pairwise_append]
  refine ⟨h3.sublist (List.take_sublist _ _),?_,?_⟩
  ·rw [List.pairwise_cons]
   exact ⟨hB,h3.sublist (List.drop_sublist _ _)⟩
  ·intro a ha b hb
   rcases List.mem_cons.1 hb with rfl | hb
   ·exact hA a ha
   ·exact ahd_trans (hA a ha) (hB b hb)
def seenP (k:ByteArray) (q:Int) (e:Ent):Bool:=kEq e.key k && decide (e.seq≤q)
def seenL (es:List Ent) (k:ByteArray) (q:Int):Option Ent:=es.find? (seenP k q)
def zeroE:Ent:=⟨⟨#[]⟩,⟨#[]⟩,0,false⟩
theorem seenL_scan (es:List Ent) (k:ByteArray) (q:Int) (i:Nat) (hi:i < es.length) (h1:∀ j,j < i→seenP k q (nth es j)=false) (h2:seenP k q (nth es i)=true):seenL es k q=some (nth es i):=by
 unfold seenL
 rw [List.find?_eq_some_iff_getElem]
 refine ⟨h2,i,hi,by rw [nth_eq hi],fun j hj=>?_⟩
 have:=h1 j hj
 rw [nth_eq (by omega)] at this
 simp [this]
theorem seenL_none (es:List Ent) (k:ByteArray) (q:Int) (h1:∀ j,j < es.length→seenP k q (nth es j)=false):seenL es k q=none:=by
 unfold seenL
 rw [List.find?_eq_none]
 intro a ha
 obtain ⟨i,hi,rfl⟩:=List.getElem_of_mem ha
 have:=h1 i hi
 rw [nth_eq hi] at this
 simp [this]
theorem seen_at {es:List Ent} (hs:okL es=true) (k:ByteArray) (q:Int) (t:Ent) (hk:t.key=k) (hq:t.seq=q) :
 seenL es k q=if atE es t < es.length∧(nth es (atE es t)).key=k then some (nth es (atE es t)) else none:=by
 have hlo:∀ j,j < atE es t→seenP k q (nth es j)=false:=by
  intro j hj
  have:=atE_lo es t hj
  rw [ahd_iff,hk,hq] at this
  rcases this with h | ⟨h,h'⟩
  ·have hne:(nth es j).key≠k:=fun e=>by rw [e,kLt_irrefl] at h;cases h
   simp [seenP,kEq,hne]
  ·simp [seenP,kEq];intro _;omega
 split
 ·rename_i h
  refine seenL_scan es k q _ h.1 hlo ?_
  have h2:=atE_hi hs t (Nat.le_refl _) h.1
  simp [ahd,kEq,hk,hq,h.2,kLt_irrefl] at h2
  simp [seenP,kEq,h.2];omega
 ·rename_i h
  refine seenL_none es k q fun j hj=>?_
  rcases Nat.lt_or_ge j (atE es t) with h1 | h1
  ·exact hlo j h1
  ·have h2:=atE_hi hs t h1 hj
   have hne:(nth es j).key≠k:=by
    intro e
    apply h
    refine ⟨by omega,?_⟩
    by_cases hje:atE es t=j
    ·rw [hje];exact e
    ·have h3:=okL_ij hs (show atE es t < j by omega) hj
     have h4:=atE_hi hs t (Nat.le_refl _) (show atE es t < es.length by omega)
     rw [ahd_iff] at h3
     rcases h3 with h3 | h3
     ·rw [e,← hk] at h3
      simp [ahd,kEq,h3] at h4
     ·rw [h3.1,e]
   simp [seenP,kEq,hne]
theorem seenL_some {es:List Ent} {k:ByteArray} {q:Int} {e:Ent} (h:seenL es k q=some e):e.key=k∧e.seq≤q:=by
 have:=List.find?_some h
 simpa [seenP,kEq] using this
open Go.RowKit
theorem Tryz.info50:(Tryz.prog.info? 50).map (fun i=>(i.zero,i.size,i.bytes))=some (some (.agg #[.string ⟨#[]⟩,.string ⟨#[]⟩,.int .i64 0,.bool false]),4,48):=by kernel_rfl
def EC (e:Ent):List Value:=[.string e.key,.string e.val,.int .i64 e.seq,.bool e.gone]
def EV (es:List Ent):List Value:=es.flatMap EC
theorem EV_length:∀ es:List Ent,(EV es).length=es.length*4
 | []=>rfl
 | a::r=>by
  have:=EV_length r
  unfold EV at this ⊢
  rw [List.flatMap_cons,List.length_append,this,List.length_cons]
  simp [EC];omega
theorem EV_append (a b:List Ent):EV (a++b)=EV a++EV b:=by simp [EV]
theorem EV_cons (a:Ent) (r:List Ent):EV (a::r)=EC a++EV r:=by simp [EV]
theorem EV_get:∀ (es:List Ent) (i:Nat),i < es.length→∀ j,j < 4→(EV es)[i*4+j]? = (EC (nth es i))[j]?
 | [],i,h,_,_=>by simp at h
 | a::r,0,_,j,hj=>by
  rw [EV_cons,nth_zero,Nat.zero_mul,Nat.zero_add,List.getElem?_append_left (by simp [EC];exact hj)]
 | a::r,i+1,h,j,hj=>by
  rw [EV_cons,nth_succ,← EV_get r i (by simpa using h) j hj,List.getElem?_append_right (by simp [EC];omega)]
  congr 1
  simp [EC];omega
theorem EV_oneCell (es:List Ent):∀ u∈EV es,u.oneCell'=true:=by
 intro u hu
 simp only [EV,List.mem_flatMap] at hu
 obtain ⟨e,_,he⟩:=hu
 simp only [EC,List.mem_cons,List.not_mem_nil,or_false] at he
 rcases he with rfl | rfl | rfl | rfl<;>rfl
def EntAt (w:World) (b o:Nat) (e:Ent):Prop :=
 w.cell? ⟨b,o,none⟩=some (.string e.key)∧w.cell? ⟨b,o+1,none⟩=some (.string e.val)∧w.cell? ⟨b,o+2,none⟩=some (.int .i64 e.seq)∧w.cell? ⟨b,o+3,none⟩=some (.bool e.gone)
def OwnE (w:World) (base:Nat) (v:Value) (es:List Ent):Prop:=w.ownsRow base 50 4 v es.length (EV es)
def RdE (w:World) (v:Value) (es:List Ent):Prop :=
 ∃ a cap,v=.slice a es.length cap∧es.length≤cap∧cap≤maxLen∧(a=none→cap=0) ∧
  (es=[]∨∃ b off,a=some ⟨b,off,none⟩∧∀ i,i < es.length→EntAt w b (off+i*4) (nth es i))
theorem EntAt.lt {w:World} {b o:Nat} {e:Ent} (h:EntAt w b o e):b < w.heap.size:=World.block_lt_of_cell? w _ h.1
theorem EntAt.of_block {w w':World} {b o:Nat} {e:Ent} (h:EntAt w b o e) (hb:w'.heap[b]? = w.heap[b]?):EntAt w' b o e :=
 ⟨(World.cell?_of_block (a:=⟨b,o,none⟩) hb).trans h.1,(World.cell?_of_block (a:=⟨b,o+1,none⟩) hb).trans h.2.1,(World.cell?_of_block (a:=⟨b,o+2,none⟩) hb).trans h.2.2.1,(World.cell?_of_block (a:=⟨b,o+3,none⟩) hb).trans h.2.2.2⟩
theorem EntAt.below {w w':World} {b o:Nat} {e:Ent} (h:EntAt w b o e) (hb:Below w.heap.size w w'):EntAt w' b o e:=h.of_block (hb.block b h.lt)
theorem ownE_cell {w:World} {base g cap n:Nat} {es:List Ent} (h:w.ownsRow base 50 4 (.slice (some ⟨g,0,none⟩) n cap) n (EV es)) (hn:n=es.length) (i:Nat) (hi:i < n):EntAt w g (i*4) (nth es i):=by
 subst hn
 have c:∀ j,j < 4→w.cell? ⟨g,i*4+j,none⟩=(EC (nth es i))[j]?:=fun j hj=>(h.cellAt (i*4+j) (by omega)).trans (EV_get es i hi j hj)
 exact ⟨c 0 (by omega),c 1 (by omega),c 2 (by omega),c 3 (by omega)⟩
theorem OwnE.rd {w:World} {base:Nat} {v:Value} {es:List Ent} (h:OwnE w base v es):RdE w v es:=by
 have h':=h
 rcases h.2 with ⟨rfl,h0⟩ | ⟨g,cap,cur,rfl,hb,hg,hn,hc,hs,ht⟩
 ·have:es=[]:=List.length_eq_zero_iff.1 h0
  subst this
  exact ⟨none,0,rfl,Nat.le_refl _,Nat.zero_le _,fun _=>rfl,.inl rfl⟩
 ·refine ⟨some ⟨g,0,none⟩,cap,rfl,hn,hc,(fun h=>by cases h),.inr ⟨g,0,rfl,fun i hi=>?_⟩⟩
  rw [Nat.zero_add]
  exact ownE_cell h' rfl i hi
theorem OwnE.below {w w':World} {base:Nat} {v:Value} {es:List Ent} (h:OwnE w base v es) (hb:Below w.heap.size w w'):OwnE w' base v es:=own_below h hb
theorem OwnE.drewN {w:World} {base:Nat} {v:Value} {es:List Ent} (h:OwnE w base v es) (q:Nat):OwnE (w.drewN q) base v es:=h
theorem OwnE.mono {w:World} {base base':Nat} {v:Value} {es:List Ent} (h:OwnE w base v es) (hb:base'≤base):OwnE w base' v es:=by
 refine ⟨h.1,?_⟩
 rcases h.2 with h2 | ⟨g,cap,cur,hv,hg,r⟩
 ·exact .inl h2
 ·exact .inr ⟨g,cap,cur,hv,Nat.le_trans hb hg,r⟩
theorem RdE.below {w w':World} {v:Value} {es:List Ent} (h:RdE w v es) (hb:Below w.heap.size w w'):RdE w' v es:=by
 obtain ⟨a,cap,hv,h1,h2,h0,h3⟩:=h
 refine ⟨a,cap,hv,h1,h2,h0,?_⟩
 rcases h3 with h3 | ⟨b,off,ha,hc⟩
 ·exact .inl h3
 ·exact .inr ⟨b,off,ha,fun i hi=>(hc i hi).below hb⟩
theorem RdE.drewN {w:World} {v:Value} {es:List Ent} (h:RdE w v es) (q:Nat):RdE (w.drewN q) v es:=h
theorem rdE_nil (w:World):RdE w (.slice none 0 0) []:=⟨none,0,rfl,Nat.le_refl _,Nat.zero_le _,fun _=>rfl,.inl rfl⟩
theorem ownE_none (w:World):OwnE (w.alloc (.cells #[] 50)) w.heap.size (.slice (some ⟨w.heap.size,0,none⟩) 0 0) []:=World.ownsRow_lit w #[] 0 (Nat.le_refl _) (Nat.zero_le _) rfl
theorem ownE_lt {w:World} {B:Nat} {v:Value} {es:List Ent} (h:OwnE w B v es):∀ k,v.ownBlock=some k→k < w.heap.size:=fun k hk=>(World.ownsRow.lt h k hk).2
theorem ownE_more {w1:World} {B:Nat} {v':Value} {ys zs:List Ent} (h:w1.ownsRow B 50 4 v' (ys.length+zs.length) (EV ys++EV zs)):OwnE w1 B v' (ys++zs):=by
 unfold OwnE
 rw [EV_append,List.length_append]
 exact h
theorem RdE.at {w:World} {a:Option Addr} {n cap:Nat} {es:List Ent} (h:RdE w (.slice a n cap) es) (hn:n=es.length) (i:Nat) (hi:i < es.length):∃ b off,a=some ⟨b,off,none⟩∧EntAt w b (off+i*4) (nth es i):=by
 obtain ⟨a',cap',hv,_,_,_,h3⟩:=h
 simp only [Value.slice.injEq] at hv
 obtain ⟨rfl,_,_⟩:=hv
 rcases h3 with rfl | ⟨b,off,ha,hc⟩
 ·simp at hi
 ·exact ⟨b,off,ha,hc i hi⟩
theorem EV_nth {es:List Ent} {j:Nat} {u:Value} (h:(EV es)[j]? = some u):j / 4 < es.length∧(EC (nth es (j / 4)))[j % 4]? = some u:=by
 have hj:j < (EV es).length:=(List.getElem?_eq_some_iff.1 h).1
 rw [EV_length] at hj
 have h1:j / 4 < es.length:=by omega
 refine ⟨h1,?_⟩
 have h2:=EV_get es (j / 4) h1 (j % 4) (by omega)
 rw [show j / 4*4+j % 4=j by omega] at h2
 rw [← h2];exact h
theorem EntAt.cellAt {w:World} {b o:Nat} {e:Ent} (h:EntAt w b o e) {j:Nat} {u:Value} (hu:(EC e)[j]? = some u):w.cell? ⟨b,o+j,none⟩=some u:=by
 obtain ⟨h0,h1,h2,h3⟩:=h
 match j,hu with
 | 0,hu=>simp [EC] at hu;subst hu;exact h0
 | 1,hu=>simp [EC] at hu;subst hu;exact h1
 | 2,hu=>simp [EC] at hu;subst hu;exact h2
 | 3,hu=>simp [EC] at hu;subst hu;exact h3
theorem entsAt_cells {w:World} {b off:Nat} {es:List Ent} (h:∀ i,i < es.length→EntAt w b (off+i*4) (nth es i)):∀ j u,(EV es)[j]? = some u→w.cell? ((⟨b,off,none⟩:Addr).add j)=some u:=by
 intro j u hu
 obtain ⟨h1,h2⟩:=EV_nth hu
 have:=(h _ h1).cellAt h2
 rw [Addr.add_lit]
 rw [show off+j / 4*4+j % 4=off+j by omega] at this
 exact this
theorem run_append_ents (ty:TypeId) {w:World} {base:Nat} {v u:Value} {ys zs:List Ent} (hown:OwnE w base v ys) (hr:RdE w u zs) (hl:ys.length+zs.length≤1000000000) (hbase:base≤w.heap.size) :
 ∃ v' w',(Builtin.append_ #[24,24] ty #[v,u]).run Tryz.prog w=.ok v' w'∧OwnE w' base v' (ys++zs)∧w.grownBy w' v.ownBlock:=by
 obtain ⟨i0,hi,hz0,hz1,hz2⟩:=info_parts Tryz.info50
 obtain ⟨a,cap,rfl,h1,h2,h0,h3⟩:=hr
 have row:∀ ad news,news=EV zs→(∀ j u,news[j]? = some u→w.cell? (ad.add j)=some u)→∃ v' w',(Builtin.append_ #[24,24] ty #[v,.slice (some ad) zs.length cap]).run Tryz.prog w=.ok v' w'∧OwnE w' base v' (ys++zs)∧w.grownBy w' v.ownBlock:=by
  intro ad news hn hc
  subst hn
  obtain ⟨v',w',hrun,r1,r2,_⟩:=run_append_own (P:=Tryz.prog) w base 24 ty 50 i0 _ 4 48 Tryz.underlying24 hi hz0 hz1 hz2 rfl (by decide) v ys.length (EV ys) hown ad zs.length cap (EV zs) (EV_length zs) hc (EV_oneCell zs) (by unfold maxLen;omega) (by omega) hbase
  exact ⟨v',w',hrun,ownE_more r1,r2⟩
 cases a with
 | some ad =>
  refine row ad (EV zs) rfl ?_
  rcases h3 with rfl | ⟨b,off,ha,hc⟩
  ·intro j u hj;simp [EV] at hj
  ·cases ha;exact entsAt_cells hc
 | none =>
  have hc0:=h0 rfl
  subst hc0
  rcases h3 with rfl | ⟨b,off,ha,hc⟩
  ·refine ⟨v,w,run_append_owned_none (P:=Tryz.prog) w base 24 ty 50 i0 4 Tryz.underlying24 hi v ys.length (EV ys) hown,by simpa using hown,⟨rfl,rfl,rfl,Nat.le_refl _,fun _ _ _=>rfl⟩⟩
  ·cases ha
theorem wpList_append_ents {w:World} {ops:Array Oper} {rest:List Oper} {o:Oper} {a:Act} {Q:Exit→Act→World→Prop} (hgd:o.guard=none) (s x:Operand)
 (ho:o.op=.call { callee:=.builtin .append,args:=#[s,x],argTypes:=#[24,24] }) (base:Nat) (v u:Value) (ys zs:List Ent) (hs:a.eval s=v) (hx:a.eval x=u) (hown:OwnE w base v ys) (hr:RdE w u zs) (hl:ys.length+zs.length≤1000000000) (hbase:base≤w.heap.size)
 (h:∀ v' w',OwnE w' base v' (ys++zs)→w.grownBy w' v.ownBlock→wpList Tryz.prog ops Q rest (a.put o.dst v') w'):wpList Tryz.prog ops Q (o::rest) a w:=by
 refine wpList_plain hgd fun K hK=>?_
 obtain ⟨v',w',hrun,r1,r2⟩:=run_append_ents o.type hown hr hl hbase
 unfold Oper.wp
 simp [execOp,ho,resolve,invoke,builtin,hs,hx,hrun,Result.andThen]
 exact hK _ _ (h v' w' r1 r2)
theorem step_append_ents {w:World} {ops:Array Oper} {o:Oper} {a:Act} {K:Act→World→Prop} {Q:Exit→Act→World→Prop} {E:Prop} (hgd:o.guard=none) (d:Nat) (hd:o.dst=some d) (s x:Operand)
 (ho:o.op=.call { callee:=.builtin .append,args:=#[s,x],argTypes:=#[24,24] }) (base:Nat) (v u:Value) (ys zs:List Ent) (hs:a.eval s=v) (hx:a.eval x=u) (hown:OwnE w base v ys) (hr:RdE w u zs) (hl:ys.length+zs.length≤1000000000) (hbase:base≤w.heap.size)
 (h:∀ v' w',OwnE w' base v' (ys++zs)→w.grownBy w' v.ownBlock→K (a.put (some d) v') w') :
 if Region.wanted o (yielded ops a.tmps)=true then Oper.wp Tryz.prog o a w K Q else E:=by
 have hw:Region.wanted o (yielded ops a.tmps)=true:=by simp [Region.wanted,hgd]
 rw [if_pos hw]
 obtain ⟨v',w',hrun,r1,r2⟩:=run_append_ents o.type hown hr hl hbase
 unfold Oper.wp
 simp [execOp,ho,resolve,invoke,builtin,hs,hx,hrun,Result.andThen]
 have h':=h v' w' r1 r2
 rw [← hd] at h'
 exact h'
def Fits (e:Ent):Prop:=e.key.size≤4503599627370496∧e.val.size≤4503599627370496∧-9223372036854775808≤e.seq∧e.seq≤9223372036854775807
open Go.RowKit
theorem ret_bool {a b:Bool} (h:a=b):Ending.returned (.bool a)=.returned (.bool b):=by rw [h]
theorem ret_intE {k:IntKind} {a b:Int} (h:a=b):Ending.returned (.int k a)=.returned (.int k b):=by rw [h]
theorem below1 (w:World) (x:Obj):Below w.heap.size w (w.alloc x):=(Below.refl _ _).alloc (Nat.le_refl _) _
theorem below2 (w:World) (x y:Obj):Below w.heap.size w ((w.alloc x).alloc y):=(below1 w x).alloc (by simp) _
theorem bcell {W w1:World} (hb:Below W.heap.size W w1):(∀ b o,b < W.heap.size→w1.cell? ⟨b,o,none⟩=W.cell? ⟨b,o,none⟩)∧(∀ b o,b < W.heap.size→w1.frozen? ⟨b,o,none⟩=W.frozen? ⟨b,o,none⟩) :=
 ⟨fun b o h=>hb.cell (p:=⟨b,o,none⟩) h,fun b o h=>hb.frozen (p:=⟨b,o,none⟩) h⟩
theorem takeH {P:Program} {ops:Array Oper} {Q:Exit→Act→World→Prop} {md:Region.Mode} {S:World→Prop} {i d:Nat} {oi:Oper} {v:Value} {fuel:Nat} {listed:Array Bool} {a:Act} {w:World} (hi:ops[i]? = some oi) (hd:oi.dst=some d)
 (hs:Region.noSelect ops=true) (hf:Region.free md ops listed i=true) (hr:(Region.ready md ops listed).contains i=true)
 (hQ:∀ c a w,Q (.panic c) (a.put (some d) v) w→Q (.panic c) a w) (hy:YieldsIf P ops S oi v a) (hS:S w)
 (h:wpAnyH P md ops Q S fuel (listed.setIfInBounds i true) (a.put (some d) v) w):wpAnyH P md ops Q S (fuel+1) listed a w :=
 wpAnyH_take hi hs hf hr (by rw [hd];exact hQ) hy hS (by rw [hd];exact h)
theorem tkG (i d:Nat) {P:Program} {ops:Array Oper} {Q:Exit→Act→World→Prop} {md:Region.Mode} {S:World→Prop} {oi:Oper} {v:Value} {fuel:Nat} {listed:Array Bool} {a:Act} {w:World} (hS:S w)
 (h:wpAnyH P md ops (NoPanic Q) S fuel (listed.setIfInBounds i true) (a.put (some d) v) w) (hi:ops[i]? = some oi:=by rfl) (hd:oi.dst=some d:=by rfl)
 (hs:Region.noSelect ops=true:=by kernel_rfl) (hf:Region.free md ops listed i=true:=by kernel_rfl) (hr:(Region.ready md ops listed).contains i=true:=by kernel_rfl) (hw:Region.wanted oi (yielded ops a.tmps)=true:=by kernel_rfl)
 (hy:∀ w,S w→(execOp a.eval oi).run P w=.ok (.value v) w:=by intro w hS;(try dsimp only [Nat.zero_add] at hS);go_simp;(try with_reducible rfl)):wpAnyH P md ops (NoPanic Q) S (fuel+1) listed a w :=
 takeH hi hd hs hf hr (fun _ _ _ h=>h) (Or.inl ⟨hw,hy⟩) hS h
theorem kG (i d:Nat) {P:Program} {ops:Array Oper} {Q:Exit→Act→World→Prop} {md:Region.Mode} {S:World→Prop} {oi:Oper} {v:Value} {fuel:Nat} {listed:Array Bool} {a a':Act} {w:World} (hS:S w) (h:wpAnyH P md ops (NoPanic Q) S fuel (listed.setIfInBounds i true) a' w) (hi:ops[i]? = some oi:=by rfl) (hd:oi.dst=some d:=by rfl) (hs:Region.noSelect ops=true:=by kernel_rfl) (hf:Region.free md ops listed i=true:=by kernel_rfl) (hr:(Region.ready md ops listed).contains i=true:=by kernel_rfl) (hw:Region.wanted oi (yielded ops a.tmps)=true:=by kernel_rfl) (hy:∀ w,S w→(execOp a.eval oi).run P w=.ok (.value v) w:=by intro w hS;(try dsimp only [Nat.zero_add] at hS);go_simp;(try with_reducible rfl)) (ha:a.put (some d) v=a':=by (try simp only [Act.put,sA,sZ,sS]);(try rfl)):wpAnyH P md ops (NoPanic Q) S (fuel+1) listed a w:=takeH hi hd hs hf hr (fun _ _ _ h=>h) (Or.inl ⟨hw,hy⟩) hS (ha ▸ h)
theorem tkS (i d:Nat) {P:Program} {ops:Array Oper} {Q:Exit→Act→World→Prop} {md:Region.Mode} {S:World→Prop} {oi:Oper} {fuel:Nat} {listed:Array Bool} {a:Act} {w:World} (hS:S w)
 (h:wpAnyH P md ops (NoPanic Q) S fuel (listed.setIfInBounds i true) (a.put (some d) undef) w) (hi:ops[i]? = some oi:=by rfl) (hd:oi.dst=some d:=by rfl)
 (hs:Region.noSelect ops=true:=by kernel_rfl) (hf:Region.free md ops listed i=true:=by kernel_rfl) (hr:(Region.ready md ops listed).contains i=true:=by kernel_rfl) (hw:Region.wanted oi (yielded ops a.tmps)=false:=by kernel_rfl):wpAnyH P md ops (NoPanic Q) S (fuel+1) listed a w :=
 takeH hi hd hs hf hr (fun _ _ _ h=>h) (Or.inr ⟨hw,rfl⟩) hS h
theorem kS (i d:Nat) {P:Program} {ops:Array Oper} {Q:Exit→Act→World→Prop} {md:Region.Mode} {S:World→Prop} {oi:Oper} {fuel:Nat} {listed:Array Bool} {a a':Act} {w:World} (hS:S w) (h:wpAnyH P md ops (NoPanic Q) S fuel (listed.setIfInBounds i true) a' w) (hi:ops[i]? = some oi:=by rfl) (hd:oi.dst=some d:=by rfl) (hs:Region.noSelect ops=true:=by kernel_rfl) (hf:Region.free md ops listed i=true:=by kernel_rfl) (hr:(Region.ready md ops listed).contains i=true:=by kernel_rfl) (hw:Region.wanted oi (yielded ops a.tmps)=false:=by kernel_rfl) (ha:a.put (some d) undef=a':=by (try simp only [Act.put,sA,sZ,sS]);(try rfl)):wpAnyH P md ops (NoPanic Q) S (fuel+1) listed a w:=takeH hi hd hs hf hr (fun _ _ _ h=>h) (Or.inr ⟨hw,rfl⟩) hS (ha ▸ h)
theorem row_set {w:World} {B t s n c j:Nat} {v u:Value} {xs:List Value} (ho:w.ownsRow B t s v n xs) (hc:∀ k,v.ownBlock=some k→c≠k):(w.setCell ⟨c,j,none⟩ u).ownsRow B t s v n xs :=
 row_kept ho (⟨rfl,rfl,rfl,by simp,fun k _ hk=>heap_setCell_other w ⟨c,j,none⟩ k u (fun e=>hk (by simp [e]))⟩:w.grownBy (w.setCell ⟨c,j,none⟩ u) (some c)) (fun k hk e=>hc k hk (Option.some.inj e))
theorem rows_apart {w:World} {B1 B2 t1 t2 s1 s2 n1 n2:Nat} {v1 v2:Value} {xs ys:List Value} (h1:w.ownsRow B1 t1 s1 v1 n1 xs) (h2:w.ownsRow B2 t2 s2 v2 n2 ys) (ht:t1≠t2):∀ k,v1.ownBlock=some k→v2.ownBlock=some k→False:=by
 intro k hk1 hk2
 rcases h1.2 with ⟨rfl,_⟩ | ⟨g,cap,cur,rfl,_,hg,_⟩
 ·simp [Value.ownBlock] at hk1
 ·rcases h2.2 with ⟨rfl,_⟩ | ⟨g2,cap2,cur2,rfl,_,hg2,_⟩
  ·simp [Value.ownBlock] at hk2
  ·obtain rfl:g=k:=by simpa [Value.ownBlock] using hk1
   obtain rfl:g2=g:=by simpa [Value.ownBlock] using hk2
   rw [hg] at hg2
   injection hg2 with hg2
   injection hg2 with _ h3
   exact ht h3
def NilOk (v:Value):Prop:=∀ n c,v=.slice none n c→c=0
theorem run_append_txts (ty:TypeId) {w:World} {base:Nat} {v u:Value} {ys zs:List ByteArray} (hown:OwnS w base v ys) (hr:RdS w u zs) (hn:NilOk u) (hl:ys.length+zs.length≤1000000000) (hbase:base≤w.heap.size) :
 ∃ v' w',(Builtin.append_ #[40,40] ty #[v,u]).run Tryz.prog w=.ok v' w'∧OwnS w' base v' (ys++zs)∧w.grownBy w' v.ownBlock:=by
 obtain ⟨i0,hi,hz0,hz1,hz2⟩:=info_parts Tryz.info9
 obtain ⟨a,cap,rfl,h1,h2,h3⟩:=hr
 have more:∀ {w1:World} {v':Value},w1.ownsRow base 9 1 v' (ys.length+zs.length) (SV ys++SV zs)→OwnS w1 base v' (ys++zs):=fun h=>by unfold OwnS;rw [SV_append,List.length_append];exact h
 have row:∀ ad,(∀ j u,(SV zs)[j]? = some u→w.cell? (ad.add j)=some u)→∃ v' w',(Builtin.append_ #[40,40] ty #[v,.slice (some ad) zs.length cap]).run Tryz.prog w=.ok v' w'∧OwnS w' base v' (ys++zs)∧w.grownBy w' v.ownBlock:=by
  intro ad hc
  obtain ⟨v',w',hrun,r1,r2,_⟩:=run_append_own (P:=Tryz.prog) w base 40 ty 9 i0 _ 1 16 Tryz.underlying40 hi hz0 hz1 hz2 rfl (by decide) v ys.length (SV ys) hown ad zs.length cap (SV zs) (by rw [SV_length];omega) hc (fun u hu=>by obtain ⟨_,_,rfl⟩:=List.mem_map.1 hu;rfl) (by unfold maxLen;omega) (by omega) hbase
  exact ⟨v',w',hrun,more r1,r2⟩
 cases a with
 | some ad =>
  refine row ad ?_
  rcases h3 with rfl | ⟨b,off,ha,hc⟩
  ·intro j u hj;simp [SV] at hj
  ·cases ha
   intro j u hj
   have hjl:j < zs.length:=by have:=(List.getElem?_eq_some_iff.1 hj).1;rwa [SV_length] at this
   rw [SV_get zs j hjl] at hj
   cases hj
   rw [Addr.add_lit]
   exact hc j hjl
 | none =>
  have hc0:=hn _ _ rfl
  subst hc0
  rcases h3 with rfl | ⟨b,off,ha,hc⟩
  ·refine ⟨v,w,run_append_owned_none (P:=Tryz.prog) w base 40 ty 9 i0 1 Tryz.underlying40 hi v ys.length (SV ys) hown,by simpa using hown,⟨rfl,rfl,rfl,Nat.le_refl _,fun _ _ _=>rfl⟩⟩
  ·cases ha
theorem wpList_append_txts {w:World} {ops:Array Oper} {rest:List Oper} {o:Oper} {a:Act} {Q:Exit→Act→World→Prop} (hgd:o.guard=none) (s x:Operand)
 (ho:o.op=.call { callee:=.builtin .append,args:=#[s,x],argTypes:=#[40,40] }) (base:Nat) (v u:Value) (ys zs:List ByteArray) (hs:a.eval s=v) (hx:a.eval x=u) (hown:OwnS w base v ys) (hr:RdS w u zs) (hn:NilOk u) (hl:ys.length+zs.length≤1000000000) (hbase:base≤w.heap.size)
 (h:∀ v' w',OwnS w' base v' (ys++zs)→w.grownBy w' v.ownBlock→wpList Tryz.prog ops Q rest (a.put o.dst v') w'):wpList Tryz.prog ops Q (o::rest) a w:=by
 refine wpList_plain hgd fun K hK=>?_
 obtain ⟨v',w',hrun,r1,r2⟩:=run_append_txts o.type hown hr hn hl hbase
 unfold Oper.wp
 simp [execOp,ho,resolve,invoke,builtin,hs,hx,hrun,Result.andThen]
 exact hK _ _ (h v' w' r1 r2)
theorem step_row0 {w:World} {ops:Array Oper} {o:Oper} {a:Act} {K:Act→World→Prop} {Q:Exit→Act→World→Prop} {E:Prop} (hgd:o.guard=none) (d:Nat) (hd:o.dst=some d) (e:TypeId) (s:Nat)
 (hrun:(execOp a.eval o).run Tryz.prog w=.ok (.value (.slice (some ⟨w.heap.size,0,none⟩) 0 0)) (w.alloc (.cells #[] e)))
 (h:∀ b W',Below w.heap.size w W'→W'.ownsRow w.heap.size e s (.slice (some ⟨b,0,none⟩) 0 0) 0 []→w.heap.size≤b→b < W'.heap.size→K (a.put (some d) (.slice (some ⟨b,0,none⟩) 0 0)) W') :
 if Region.wanted o (yielded ops a.tmps)=true then Oper.wp Tryz.prog o a w K Q else E:=by
 have hw:Region.wanted o (yielded ops a.tmps)=true:=by simp [Region.wanted,hgd]
 rw [if_pos hw]
 have h':=h w.heap.size _ (below1 w (.cells #[] e)) (World.ownsRow_lit w #[] 0 (Nat.le_refl _) (Nat.zero_le _) (by simp)) (Nat.le_refl _) (by simp)
 rw [← hd] at h'
 unfold Oper.wp
 rw [hrun]
 exact h'
theorem row_base {w:World} {B t s n c j:Nat} {v u:Value} {xs:List Value} (ho:w.ownsRow B t s v n xs) (hc:c < B):(w.setCell ⟨c,j,none⟩ u).ownsRow B t s v n xs:=row_set ho (fun k hk e=>by have:=(World.ownsRow.lt ho k hk).1;omega)
def oneB (v:Value):List Nat:=v.ownBlock.toList
theorem mem_oneB {v:Value} {k:Nat}:k∈oneB v↔v.ownBlock=some k:=by
 unfold oneB
 rw [Option.mem_toList]
structure Touch (bs:List Nat) (w w':World):Prop where
 os:w'.os=w.os
 tape:w'.tape=w.tape
 output:w'.output=w.output
 size:w.heap.size≤w'.heap.size
 block:∀ k,k < w.heap.size→k ∉ bs→w'.heap[k]? = w.heap[k]?
theorem Touch.refl (bs:List Nat) (w:World):Touch bs w w:=⟨rfl,rfl,rfl,Nat.le_refl _,fun _ _ _=>rfl⟩
theorem Touch.of_below {bs:List Nat} {w w':World} (h:Below w.heap.size w w'):Touch bs w w':=⟨h.os,h.tape,h.output,h.size,fun k hk _=>h.block k hk⟩
theorem Touch.set {bs:List Nat} {w:World} {g j:Nat} {u:Value} (hg:g∈bs):Touch bs w (w.setCell ⟨g,j,none⟩ u):=⟨rfl,rfl,rfl,by simp,fun k _ hn=>heap_setCell_other w ⟨g,j,none⟩ k u (fun e=>hn (by rw [e];exact hg))⟩
theorem Touch.trans {bs:List Nat} {a b c:World} (h:Touch bs a b) (k:Touch bs b c):Touch bs a c:=⟨k.os.trans h.os,k.tape.trans h.tape,k.output.trans h.output,Nat.le_trans h.size k.size,fun i hi hn=>(k.block i (Nat.lt_of_lt_of_le hi h.size) hn).trans (h.block i hi hn)⟩
theorem Touch.more {bs cs:List Nat} {w w':World} (h:Touch bs w w') (hs:∀ k∈bs,k∈cs):Touch cs w w':=⟨h.os,h.tape,h.output,h.size,fun k hk hn=>h.block k hk (fun e=>hn (hs k e))⟩
theorem Touch.row {bs:List Nat} {w w':World} {B t s n:Nat} {v:Value} {xs:List Value} (h:Touch bs w w') (ho:w.ownsRow B t s v n xs) (hn:∀ k,v.ownBlock=some k→k ∉ bs):w'.ownsRow B t s v n xs:=by
 refine ⟨ho.1,?_⟩
 rcases ho.2 with h2 | ⟨g,cap,cur,hv,hg,hh,r⟩
 ·exact .inl h2
 ·have hgo:v.ownBlock=some g:=by rw [hv];rfl
  exact .inr ⟨g,cap,cur,hv,hg,(h.block g (World.ownsRow.lt ho g hgo).2 (hn g hgo)).trans hh,r⟩
theorem Touch.below {bs:List Nat} {a w w':World} (h:Touch bs w w') (hb:Below a.heap.size a w) (hn:∀ k∈bs,a.heap.size≤k):Below a.heap.size a w' :=
 ⟨h.os.trans hb.os,h.tape.trans hb.tape,h.output.trans hb.output,Nat.le_trans hb.size h.size,fun k hk=>(h.block k (Nat.lt_of_lt_of_le hk hb.size) (fun e=>by have:=hn k e;omega)).trans (hb.block k hk)⟩
theorem own_nil {w:World} {B t z n:Nat} {v:Value} {xs:List Value} (h:w.ownsRow B t z v n xs):NilOk v:=by
 intro m c e
 rcases h.2 with ⟨hv,_⟩ | ⟨g,cap,cur,hv,_⟩
 ·rw [hv] at e;cases e;rfl
 ·rw [hv] at e;cases e
end Go.Proofs.YtmlmlemiidedcaaGreat
