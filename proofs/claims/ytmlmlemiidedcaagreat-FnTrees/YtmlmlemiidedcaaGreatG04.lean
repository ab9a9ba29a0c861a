import Derived.Test.YtmlmlemiidedcaaGreatG01
namespace Go.Proofs.YtmlmlemiidedcaaGreat
set_option maxHeartbeats 16000000
set_option maxRecDepth 100000
def Sr (es:List Ent):Prop:=es.Pairwise (fun a b=>ahd a b=true)
theorem okL_sr {es:List Ent} (h:okL es=true):Sr es:=((okL_iff es).1 h).2.2
theorem ahd_asymm {a b:Ent} (h:ahd a b=true):ahd b a=false:=by
 cases e:ahd b a with
 | false=>rfl
 | true=>have:=ahd_trans h e;rw [ahd_irrefl] at this;cases this
def mrg:List Ent→List Ent→List Ent
 | [],b=>b
 | x::r,[]=>x::r
 | x::r,y::s=>if ahd x y=true then x::mrg r (y::s) else if ahd y x=true then y::mrg (x::r) s else mrg (x::r) s
termination_by a b=>a.length+b.length
theorem mrg_nil (a:List Ent):mrg a []=a:=by cases a<;>rw [mrg]
theorem mrg_sub:∀ (n:Nat) (a b:List Ent),a.length+b.length≤n→∀ z,z∈mrg a b→z∈a∨z∈b:=by
 intro n
 induction n with
 | zero =>
  intro a b h z hz
  have:a=[]:=List.length_eq_zero_iff.1 (by omega)
  subst this
  rw [mrg] at hz
  exact .inr hz
 | succ n ih =>
  intro a b h z hz
  cases a with
  | nil=>rw [mrg] at hz;exact .inr hz
  | cons x r =>
   cases b with
   | nil=>rw [mrg] at hz;exact .inl hz
   | cons y s =>
    simp only [List.length_cons] at h
    rw [mrg] at hz
    split at hz
    ·rcases List.mem_cons.1 hz with rfl | hz
     ·exact .inl List.mem_cons_self
     ·rcases ih r (y::s) (by simp only [List.length_cons];omega) z hz with h | h
      ·exact .inl (List.mem_cons_of_mem _ h)
      ·exact .inr h
    ·split at hz
     ·rcases List.mem_cons.1 hz with rfl | hz
      ·exact .inr List.mem_cons_self
      ·rcases ih (x::r) s (by simp only [List.length_cons];omega) z hz with h | h
       ·exact .inl h
       ·exact .inr (List.mem_cons_of_mem _ h)
     ·rcases ih (x::r) s (by simp only [List.length_cons];omega) z hz with h | h
      ·exact .inl h
      ·exact .inr (List.mem_cons_of_mem _ h)
theorem mrg_mem {a b:List Ent} {z:Ent} (h:z∈mrg a b):z∈a∨z∈b:=mrg_sub _ a b (Nat.le_refl _) z h
theorem mrg_len:∀ (n:Nat) (a b:List Ent),a.length+b.length≤n→(mrg a b).length≤a.length+b.length:=by
 intro n
 induction n with
 | zero =>
  intro a b h
  have:a=[]:=List.length_eq_zero_iff.1 (by omega)
  subst this
  rw [mrg];omega
 | succ n ih =>
  intro a b h
  cases a with
  | nil=>rw [mrg];simp
  | cons x r =>
   cases b with
   | nil=>rw [mrg];simp
   | cons y s =>
    simp only [List.length_cons] at h
    rw [mrg]
    split
    ·have:=ih r (y::s) (by simp only [List.length_cons];omega)
     simp only [List.length_cons] at this ⊢;omega
    ·split
     ·have:=ih (x::r) s (by simp only [List.length_cons];omega)
      simp only [List.length_cons] at this ⊢;omega
     ·have:=ih (x::r) s (by simp only [List.length_cons];omega)
      simp only [List.length_cons] at this ⊢;omega
theorem ahd_cases (x y:Ent) (h1:¬ ahd x y=true) (h2:¬ ahd y x=true):sameKS x y=true:=by
 cases h:sameKS x y with
 | true=>rfl
 | false=>exact absurd (ahd_tri (by simpa using h1) h) h2
theorem sameKS_iff (x y:Ent):sameKS x y=true↔x.key=y.key∧x.seq=y.seq:=by simp [sameKS,kEq]
theorem ahd_congr {x y z:Ent} (h:sameKS x y=true) (hz:ahd y z=true):ahd x z=true:=by
 rw [sameKS_iff] at h
 rw [ahd_iff] at hz ⊢
 rw [h.1,h.2]
 exact hz
theorem mrg_sr:∀ (n:Nat) (a b:List Ent),a.length+b.length≤n→Sr a→Sr b→Sr (mrg a b):=by
 intro n
 induction n with
 | zero =>
  intro a b h _ hb
  have:a=[]:=List.length_eq_zero_iff.1 (by omega)
  subst this
  rw [mrg];exact hb
 | succ n ih =>
  intro a b h ha hb
  cases a with
  | nil=>rw [mrg];exact hb
  | cons x r =>
   cases b with
   | nil=>rw [mrg];exact ha
   | cons y s =>
    simp only [List.length_cons] at h
    have ha':=List.pairwise_cons.1 ha
    have hb':=List.pairwise_cons.1 hb
    rw [mrg]
    split
    ·rename_i hxy
     refine List.pairwise_cons.2 ⟨fun z hz=>?_,ih r (y::s) (by simp only [List.length_cons];omega) ha'.2 hb⟩
     rcases mrg_mem hz with h | h
     ·exact ha'.1 z h
     ·rcases List.mem_cons.1 h with rfl | h
      ·exact hxy
      ·exact ahd_trans hxy (hb'.1 z h)
    ·rename_i hxy
     split
     ·rename_i hyx
      refine List.pairwise_cons.2 ⟨fun z hz=>?_,ih (x::r) s (by simp only [List.length_cons];omega) ha hb'.2⟩
      rcases mrg_mem hz with h | h
      ·rcases List.mem_cons.1 h with rfl | h
       ·exact hyx
       ·exact ahd_trans hyx (ha'.1 z h)
      ·exact hb'.1 z h
     ·exact ih (x::r) s (by simp only [List.length_cons];omega) ha hb'.2
theorem mrg_has:∀ (n:Nat) (a b:List Ent),a.length+b.length≤n→∀ z,(z∈a→z∈mrg a b)∧(z∈b→∃ u∈mrg a b,sameKS u z=true):=by
 have same:∀ z:Ent,sameKS z z=true:=fun z=>by rw [sameKS_iff];exact ⟨rfl,rfl⟩
 intro n
 induction n with
 | zero =>
  intro a b h z
  have:a=[]:=List.length_eq_zero_iff.1 (by omega)
  subst this
  rw [mrg]
  exact ⟨(fun h=>by cases h),fun h=>⟨z,h,same z⟩⟩
 | succ n ih =>
  intro a b h z
  cases a with
  | nil=>rw [mrg];exact ⟨(fun h=>by cases h),fun h=>⟨z,h,same z⟩⟩
  | cons x r =>
   cases b with
   | nil=>rw [mrg];exact ⟨(fun h=>h),(fun h=>by cases h)⟩
   | cons y s =>
    simp only [List.length_cons] at h
    rw [mrg]
    split
    ·obtain ⟨i1,i2⟩:=ih r (y::s) (by simp only [List.length_cons];omega) z
     refine ⟨fun hz=>?_,fun hz=>?_⟩
     ·rcases List.mem_cons.1 hz with rfl | hz
      ·exact List.mem_cons_self
      ·exact List.mem_cons_of_mem _ (i1 hz)
     ·obtain ⟨u,hu,hs⟩:=i2 hz
      exact ⟨u,List.mem_cons_of_mem _ hu,hs⟩
    ·rename_i hxy
     split
     ·obtain ⟨i1,i2⟩:=ih (x::r) s (by simp only [List.length_cons];omega) z
      refine ⟨fun hz=>List.mem_cons_of_mem _ (i1 hz),fun hz=>?_⟩
      rcases List.mem_cons.1 hz with rfl | hz
      ·exact ⟨_,List.mem_cons_self,same _⟩
      ·obtain ⟨u,hu,hs⟩:=i2 hz
       exact ⟨u,List.mem_cons_of_mem _ hu,hs⟩
     ·rename_i hyx
      obtain ⟨i1,i2⟩:=ih (x::r) s (by simp only [List.length_cons];omega) z
      refine ⟨i1,fun hz=>?_⟩
      rcases List.mem_cons.1 hz with rfl | hz
      ·exact ⟨x,((ih (x::r) s (by simp only [List.length_cons];omega) x).1 List.mem_cons_self),ahd_cases x z hxy hyx⟩
      ·exact i2 hz
def mergedL (ls:List (List Ent)):List Ent:=ls.foldl mrg []
theorem mF_len (ls:List (List Ent)):∀ a:List Ent,(ls.foldl mrg a).length≤a.length+(ls.map List.length).sum:=by
 induction ls with
 | nil=>intro a;simp
 | cons l r ih =>
  intro a
  rw [List.foldl_cons,List.map_cons,List.sum_cons]
  have h1:=ih (mrg a l)
  have h2:=mrg_len _ a l (Nat.le_refl _)
  omega
theorem mF_sr (ls:List (List Ent)) (h:∀ l∈ls,Sr l):∀ a:List Ent,Sr a→Sr (ls.foldl mrg a):=by
 induction ls with
 | nil=>intro a ha;exact ha
 | cons l r ih =>
  intro a ha
  rw [List.foldl_cons]
  exact ih (fun x hx=>h x (List.mem_cons_of_mem _ hx)) _ (mrg_sr _ a l (Nat.le_refl _) ha (h l List.mem_cons_self))
theorem sr_ext:∀ (a b:List Ent),Sr a→Sr b→(∀ x,x∈a↔x∈b)→a=b
 | [],b,_,_,h=>by
  cases b with
  | nil=>rfl
  | cons y s=>have:=(h y).2 List.mem_cons_self;cases this
 | x::r,[],_,_,h=>by have:=(h x).1 List.mem_cons_self;cases this
 | x::r,y::s,ha,hb,h=>by
  have ha':=List.pairwise_cons.1 ha
  have hb':=List.pairwise_cons.1 hb
  have hxy:x=y:=by
   rcases List.mem_cons.1 ((h x).1 List.mem_cons_self) with e | h1
   ·exact e
   ·rcases List.mem_cons.1 ((h y).2 List.mem_cons_self) with e | h2
    ·exact e.symm
    ·have p:=hb'.1 x h1;have q:=ahd_asymm (ha'.1 y h2);rw [p] at q;cases q
  subst hxy
  rw [sr_ext r s ha'.2 hb'.2]
  intro z
  have hz:=h z
  rw [List.mem_cons,List.mem_cons] at hz
  constructor
  ·intro hm
   rcases hz.1 (.inr hm) with e | e
   ·have:=ha'.1 z hm;rw [e,ahd_irrefl] at this;cases this
   ·exact e
  ·intro hm
   rcases hz.2 (.inr hm) with e | e
   ·have:=hb'.1 z hm;rw [e,ahd_irrefl] at this;cases this
   ·exact e
theorem find_sr (p:Ent→Bool):∀ (es:List Ent),Sr es→∀ e,es.find? p=some e↔e∈es∧p e=true∧∀ x∈es,p x=true→x=e∨ahd e x=true
 | [],_,e=>by simp
 | a::r,hs,e=>by
  have hs':=List.pairwise_cons.1 hs
  rw [List.find?_cons]
  cases hp:p a with
  | true =>
   constructor
   ·intro h
    obtain rfl:=Option.some.inj h
    refine ⟨List.mem_cons_self,hp,fun x hx _=>?_⟩
    rcases List.mem_cons.1 hx with rfl | hx
    ·exact .inl rfl
    ·exact .inr (hs'.1 x hx)
   ·rintro ⟨h1,h2,h3⟩
    rcases h3 a List.mem_cons_self hp with h | h
    ·rw [h]
    ·rcases List.mem_cons.1 h1 with rfl | h1
     ·rfl
     ·have q:=ahd_asymm (hs'.1 e h1);rw [h] at q;cases q
  | false =>
   simp only
   rw [find_sr p r hs'.2 e]
   constructor
   ·rintro ⟨h1,h2,h3⟩
    refine ⟨List.mem_cons_of_mem _ h1,h2,fun x hx hpx=>?_⟩
    rcases List.mem_cons.1 hx with rfl | hx
    ·rw [hp] at hpx;cases hpx
    ·exact h3 x hx hpx
   ·rintro ⟨h1,h2,h3⟩
    rcases List.mem_cons.1 h1 with rfl | h1
    ·rw [hp] at h2;cases h2
    ·exact ⟨h1,h2,fun x hx=>h3 x (List.mem_cons_of_mem _ hx)⟩
def kept (es:List Ent) (qs:List Int) (i:Nat):Bool :=
 decide (i=0) || !kEq (nth es (i - 1)).key (nth es i).key || qs.any (fun q=>(seenL es (nth es i).key q).isSome && decide (((seenL es (nth es i).key q).getD zeroE).seq=(nth es i).seq))
def seTo (es:List Ent) (qs:List Int):Nat→List Ent
 | 0=>[]
 | i+1=>if kept es qs i=true then seTo es qs i++[nth es i] else seTo es qs i
def seensL (es:List Ent) (qs:List Int):List Ent:=seTo es qs es.length
def keptE (es:List Ent) (qs:List Int) (e:Ent):Bool:=es.all (fun x=>!kEq x.key e.key || decide (x=e) || ahd e x) || qs.any (fun q=>decide (seenL es e.key q=some e))
theorem key_mid {a b c:Ent} (h1:ahd a b=true) (h2:ahd b c=true) (h:a.key=c.key):b.key=a.key:=by
 rw [ahd_iff] at h1 h2
 rcases h1 with h1 | h1
 ·rcases h2 with h2 | h2
  ·have:=kLt_trans h1 h2;rw [h,kLt_irrefl] at this;cases this
  ·rw [h2.1,h]
 ·exact h1.1.symm
theorem ks_eq {es:List Ent} (hs:Sr es) {a b:Ent} (ha:a∈es) (hb:b∈es) (hk:a.key=b.key) (hq:a.seq=b.seq):a=b:=by
 obtain ⟨i,hi,rfl⟩:=List.getElem_of_mem ha
 obtain ⟨j,hj,rfl⟩:=List.getElem_of_mem hb
 have no:∀ x y:Ent,ahd x y=true→x.key=y.key→x.seq=y.seq→False:=fun x y h h1 h2=>by
  rw [ahd_iff,h1,kLt_irrefl] at h
  rcases h with h | h
  ·cases h
  ·omega
 rcases Nat.lt_trichotomy i j with h | h | h
 ·exact absurd (no _ _ (List.pairwise_iff_getElem.1 hs i j hi hj h) hk hq) id
 ·subst h;rfl
 ·exact absurd (no _ _ (List.pairwise_iff_getElem.1 hs j i hj hi h) hk.symm hq.symm) id
theorem kept_iff {es:List Ent} (hok:okL es=true) (qs:List Int) {i:Nat} (hi:i < es.length):kept es qs i=keptE es qs (nth es i):=by
 have hs:=okL_sr hok
 unfold kept keptE
 have e1:(decide (i=0) || !kEq (nth es (i - 1)).key (nth es i).key)=es.all (fun x=>!kEq x.key (nth es i).key || decide (x=nth es i) || ahd (nth es i) x):=by
  rw [Bool.eq_iff_iff,List.all_eq_true]
  simp only [Bool.or_eq_true,decide_eq_true_eq,Bool.not_eq_true',kEq,decide_eq_false_iff_not]
  constructor
  ·intro h x hx
   obtain ⟨j,hj,rfl⟩:=List.getElem_of_mem hx
   rw [← nth_eq hj]
   rcases Nat.lt_trichotomy i j with hij | hij | hij
   ·exact .inr (okL_ij hok hij hj)
   ·subst hij;exact .inl (.inr rfl)
   ·refine .inl (.inl fun hk=>?_)
    rcases h with h | h
    ·omega
    ·refine h ?_
     by_cases hj1:j=i - 1
     ·rw [← hj1];exact hk
     ·have:=key_mid (okL_ij hok (show j < i - 1 by omega) (by omega)) (okL_ij hok (show i - 1 < i by omega) hi) hk
      rw [this];exact hk
  ·intro h
   by_cases h0:i=0
   ·exact .inl h0
   ·refine .inr fun hk=>?_
    have hp:=okL_ij hok (show i - 1 < i by omega) hi
    rcases h (nth es (i - 1)) (by rw [nth_eq (by omega)];exact List.getElem_mem _) with (h | h) | h
    ·exact h hk
    ·rw [h,ahd_irrefl] at hp;cases hp
    ·have:=ahd_asymm hp;rw [h] at this;cases this
 rw [e1]
 congr 2
 funext q
 cases hq:seenL es (nth es i).key q with
 | none=>simp
 | some u =>
  have hu:u∈es:=List.mem_of_find?_eq_some hq
  have hk:=(seenL_some hq).1
  have hm:nth es i∈es:=by rw [nth_eq hi];exact List.getElem_mem hi
  simp only [Option.isSome_some,Bool.true_and,Option.getD_some,Option.some.injEq]
  apply decide_eq_decide.2
  exact ⟨fun h=>ks_eq hs hu hm hk h,fun h=>by rw [h]⟩
theorem seTo_filter {es:List Ent} (hok:okL es=true) (qs:List Int):∀ i,i≤es.length→seTo es qs i=(es.take i).filter (keptE es qs)
 | 0,_=>by rw [seTo];simp
 | i+1,hi=>by
  have ih:=seTo_filter hok qs i (by omega)
  rw [List.take_add_one,List.getElem?_eq_getElem (by omega),Option.toList_some,List.filter_append,← ih,← nth_eq (by omega),seTo,kept_iff hok qs (by omega),List.filter_cons]
  cases keptE es qs (nth es i)<;>simp
theorem seens_filter {es:List Ent} (hok:okL es=true) (qs:List Int):seensL es qs=es.filter (keptE es qs):=by
 unfold seensL
 rw [seTo_filter hok qs _ (Nat.le_refl _),List.take_of_length_le (Nat.le_refl _)]
theorem okL_subl {es fs:List Ent} (h:okL es=true) (hs:fs.Sublist es):okL fs=true:=by
 rw [okL_iff] at h ⊢
 exact ⟨Nat.le_trans hs.length_le h.1,fun e he=>h.2.1 e (hs.subset he),h.2.2.sublist hs⟩
theorem seens_sub {es:List Ent} (hok:okL es=true) (qs:List Int):(seensL es qs).Sublist es:=by rw [seens_filter hok];exact List.filter_sublist
def botS (e:Ent) (out:List Ent):List Ent:=if (decide (out.length=0) || !kEq (nth out 0).key e.key) && e.gone then out else e::out
def bottomOf (es:List Ent):List Ent:=es.foldr botS []
theorem botS_sub (e:Ent) (out:List Ent):(botS e out).Sublist (e::out):=by
 unfold botS
 split
 ·exact List.sublist_cons_self _ _
 ·exact List.Sublist.refl _
theorem bottom_sub:∀ es:List Ent,(bottomOf es).Sublist es
 | []=>List.Sublist.refl _
 | e::r=>(botS_sub e (bottomOf r)).trans ((bottom_sub r).cons_cons e)
structure Src where
 v:Value
 es:List Ent
 no:Nat
def Src.hd (s:Src):Ent:=nth s.es 0
def ltT (x:Ent) (i:Nat) (y:Ent) (j:Nat):Bool:=ahd x y || (sameKS x y && decide (i < j))
theorem sameKS_refl (x:Ent):sameKS x x=true:=by rw [sameKS_iff];exact ⟨rfl,rfl⟩
theorem sameKS_symm {x y:Ent} (h:sameKS x y=true):sameKS y x=true:=by rw [sameKS_iff] at h ⊢;exact ⟨h.1.symm,h.2.symm⟩
theorem sameKS_trans {x y z:Ent} (h:sameKS x y=true) (k:sameKS y z=true):sameKS x z=true:=by rw [sameKS_iff] at h k ⊢;exact ⟨h.1.trans k.1,h.2.trans k.2⟩
theorem ahd_congr2 {x y z:Ent} (h:ahd x y=true) (hz:sameKS y z=true):ahd x z=true:=by
 rw [sameKS_iff] at hz
 rw [ahd_iff] at h ⊢
 rw [← hz.1,← hz.2];exact h
theorem ahd_same {x y:Ent} (h:ahd x y=true) (k:sameKS x y=true):False:=by
 have:=ahd_congr2 h (sameKS_symm k)
 rw [ahd_irrefl] at this;cases this
theorem ltT_iff (x:Ent) (i:Nat) (y:Ent) (j:Nat):ltT x i y j=true↔ahd x y=true∨(sameKS x y=true∧i < j):=by simp [ltT]
theorem ltT_irrefl (x:Ent) (i:Nat):ltT x i x i=false:=by
 cases h:ltT x i x i with
 | false=>rfl
 | true =>
  rw [ltT_iff] at h
  rcases h with h | h
  ·rw [ahd_irrefl] at h;cases h
  ·omega
theorem ltT_trans {x y z:Ent} {i j k:Nat} (h:ltT x i y j=true) (h2:ltT y j z k=true):ltT x i z k=true:=by
 rw [ltT_iff] at *
 rcases h with h | h
 ·rcases h2 with h2 | h2
  ·exact .inl (ahd_trans h h2)
  ·exact .inl (ahd_congr2 h h2.1)
 ·rcases h2 with h2 | h2
  ·exact .inl (ahd_congr h.1 h2)
  ·exact .inr ⟨sameKS_trans h.1 h2.1,by omega⟩
theorem ltT_tri (x:Ent) (i:Nat) (y:Ent) (j:Nat):ltT x i y j=true∨ltT y j x i=true∨(sameKS x y=true∧i=j):=by
 rw [ltT_iff,ltT_iff]
 cases hs:sameKS x y with
 | true =>
  rcases Nat.lt_trichotomy i j with h | h | h
  ·exact .inl (.inr ⟨rfl,h⟩)
  ·exact .inr (.inr ⟨rfl,h⟩)
  ·exact .inr (.inl (.inr ⟨sameKS_symm hs,h⟩))
 | false =>
  cases ha:ahd x y with
  | true=>exact .inl (.inl rfl)
  | false=>exact .inr (.inl (.inl (ahd_tri ha hs)))
theorem ltT_asymm {x y:Ent} {i j:Nat} (h:ltT x i y j=true):ltT y j x i=false:=by
 cases h2:ltT y j x i with
 | false=>rfl
 | true=>have:=ltT_trans h h2;rw [ltT_irrefl] at this;cases this
def lessS (a b:Src):Bool:=ltT a.hd a.no b.hd b.no
theorem lessS_asymm {a b:Src} (h:lessS a b=true):lessS b a=false:=ltT_asymm h
theorem le_trans {a b c:Src} (h:lessS b a=false) (h2:lessS c b=false):lessS c a=false:=by
 cases h3:lessS c a with
 | false=>rfl
 | true =>
  rcases ltT_tri a.hd a.no b.hd b.no with k | k | k
  ·have h4:=ltT_trans h3 k
   unfold lessS at h2;rw [h4] at h2;cases h2
  ·unfold lessS at h;rw [k] at h;cases h
  ·have h4:ltT c.hd c.no b.hd b.no=true:=by
    unfold lessS at h3
    rw [ltT_iff] at h3 ⊢
    rcases h3 with h3 | h3
    ·exact .inl (ahd_congr2 h3 k.1)
    ·exact .inr ⟨sameKS_trans h3.1 k.1,by omega⟩
   unfold lessS at h2;rw [h4] at h2;cases h2
def zeroS:Src:=⟨.slice none 0 0,[],0⟩
def sN (hs:List Src) (i:Nat):Src:=hs.getD i zeroS
theorem sN_eq {hs:List Src} {i:Nat} (h:i < hs.length):sN hs i=hs[i]:=by simp [sN,List.getD,List.getElem?_eq_getElem h]
theorem sN_mem {hs:List Src} {i:Nat} (h:i < hs.length):sN hs i∈hs:=by rw [sN_eq h];exact List.getElem_mem h
def swapS (hs:List Src) (i j:Nat):List Src:=(hs.set i (sN hs j)).set j (sN hs i)
theorem swapS_len (hs:List Src) (i j:Nat):(swapS hs i j).length=hs.length:=by simp [swapS]
theorem sN_swap {hs:List Src} {i j k:Nat} (hi:i < hs.length) (hj:j < hs.length):sN (swapS hs i j) k=if k=j then sN hs i else if k=i then sN hs j else sN hs k:=by
 unfold swapS
 by_cases hk:k < hs.length
 ·rw [sN_eq (by simpa using hk)]
  simp only [List.getElem_set]
  by_cases h1:k=j
  ·subst h1;simp
  ·have h1':¬ j=k:=fun e=>h1 e.symm
   by_cases h2:k=i
   ·subst h2;simp [h1,h1']
   ·have h2':¬ i=k:=fun e=>h2 e.symm
    simp [h1,h1',h2,h2',sN_eq hk]
 ·rw [if_neg (by omega),if_neg (by omega)]
  unfold sN List.getD
  rw [List.getElem?_eq_none (by simpa using hk),List.getElem?_eq_none (by omega)]
theorem swapS_perm {hs:List Src} {i j:Nat} (hi:i < hs.length) (hj:j < hs.length):(swapS hs i j).Perm hs:=by
 have h:=Array.swap_perm (xs:=hs.toArray) (i:=i) (j:=j) (by simpa using hi) (by simpa using hj)
 rw [Array.perm_iff_toList_perm] at h
 have e:(hs.toArray.swap i j (by simpa using hi) (by simpa using hj)).toList=swapS hs i j:=by
  simp [Array.swap,swapS,sN_eq hi,sN_eq hj]
 rw [e] at h
 exact h
def HP (hs:List Src) (n:Nat):Prop:=∀ k,0 < k→k < n→lessS (sN hs k) (sN hs ((k - 1) / 2))=false
def upOk (hs:List Src) (j:Nat):Prop :=
 (∀ k,0 < k→k < hs.length→k≠j→lessS (sN hs k) (sN hs ((k - 1) / 2))=false)∧(∀ k,0 < k→k < hs.length→(k - 1) / 2=j→0 < j→lessS (sN hs k) (sN hs ((j - 1) / 2))=false)
theorem up_step {hs:List Src} {j:Nat} (hj:j < hs.length) (hj0:0 < j) (h:upOk hs j) (hl:lessS (sN hs j) (sN hs ((j - 1) / 2))=true):upOk (swapS hs ((j - 1) / 2) j) ((j - 1) / 2):=by
 obtain ⟨h1,h2⟩:=h
 obtain ⟨i,hi⟩:∃ i,i=(j - 1) / 2:=⟨_,rfl⟩
 rw [← hi] at hl h2 ⊢
 have hil:i < hs.length:=by omega
 have S:=fun k=>sN_swap (hs:=hs) (i:=i) (j:=j) (k:=k) hil hj
 refine ⟨fun k hk0 hk hki=>?_,fun k hk0 hk hkp hi0=>?_⟩
 ·rw [swapS_len] at hk
  by_cases hkj:k=j
  ·subst hkj
   rw [← hi,S k,if_pos rfl,S i,if_neg (by omega),if_pos rfl]
   exact lessS_asymm hl
  ·rw [S k,if_neg hkj,if_neg hki]
   by_cases hp:(k - 1) / 2=j
   ·rw [hp,S j,if_pos rfl];exact h2 k hk0 hk hp hj0
   ·by_cases hp2:(k - 1) / 2=i
    ·rw [hp2,S i,if_neg (by omega),if_pos rfl]
     have h3:=h1 k hk0 hk hkj
     rw [hp2] at h3
     exact le_trans (lessS_asymm hl) h3
    ·rw [S _,if_neg hp,if_neg hp2];exact h1 k hk0 hk hkj
 ·rw [swapS_len] at hk
  have hgp:(i - 1) / 2≠j∧(i - 1) / 2≠i:=by omega
  rw [S ((i - 1) / 2),if_neg hgp.1,if_neg hgp.2]
  have h3:=h1 i hi0 hil (by omega)
  by_cases hkj:k=j
  ·subst hkj
   rw [S k,if_pos rfl];exact h3
  ·rw [S k,if_neg hkj,if_neg (by omega)]
   have h4:=h1 k hk0 hk hkj
   rw [hkp] at h4
   exact le_trans h3 h4
theorem up_zero {hs:List Src} (h:upOk hs 0):HP hs hs.length:=fun k hk0 hk=>h.1 k hk0 hk (by omega)
theorem up_stop {hs:List Src} {j:Nat} (h:upOk hs j) (hl:lessS (sN hs j) (sN hs ((j - 1) / 2))=false):HP hs hs.length:=fun k hk0 hk=>by
 by_cases hkj:k=j
 ·subst hkj;exact hl
 ·exact h.1 k hk0 hk hkj
theorem sN_append {hs:List Src} {s:Src} {k:Nat} (h:k < hs.length):sN (hs++[s]) k=sN hs k:=by
 rw [sN_eq h,sN_eq (by simp;omega)]
 exact List.getElem_append_left h
theorem up_push {hs:List Src} (s:Src) (h:HP hs hs.length):upOk (hs++[s]) hs.length:=by
 refine ⟨fun k hk0 hk hkn=>?_,fun k hk0 hk hkp h0=>?_⟩
 ·rw [List.length_append] at hk
  simp at hk
  rw [sN_append (by omega),sN_append (by omega)]
  exact h k hk0 (by omega)
 ·rw [List.length_append] at hk
  simp at hk
  omega
def dnOk (hs:List Src) (i n:Nat):Prop :=
 (∀ k,0 < k→k < n→(k - 1) / 2≠i→lessS (sN hs k) (sN hs ((k - 1) / 2))=false)∧(∀ k,0 < k→k < n→(k - 1) / 2=i→0 < i→lessS (sN hs k) (sN hs ((i - 1) / 2))=false)
theorem dn_step {hs:List Src} {i j n:Nat} (hn:n≤hs.length) (hj:j < n) (hjp:j=2*i+1∨j=2*i+2) (h:dnOk hs i n) (hc:∀ k,k < n→k=2*i+1∨k=2*i+2→lessS (sN hs k) (sN hs j)=false)
 (hl:lessS (sN hs j) (sN hs i)=true):dnOk (swapS hs i j) j n:=by
 obtain ⟨h1,h2⟩:=h
 have hil:i < hs.length:=by omega
 have hjl:j < hs.length:=by omega
 have S:=fun k=>sN_swap (hs:=hs) (i:=i) (j:=j) (k:=k) hil hjl
 refine ⟨fun k hk0 hk hkp=>?_,fun k hk0 hk hkp _=>?_⟩
 ·by_cases hkj:k=j
  ·subst hkj
   rw [show (k - 1) / 2=i by omega,S k,if_pos rfl,S i,if_neg (by omega),if_pos rfl]
   exact lessS_asymm hl
  ·by_cases hki:k=i
   ·subst hki
    rw [S k,if_neg hkj,if_pos rfl,S _,if_neg hkp,if_neg (by omega)]
    exact h2 j (by omega) hj (by omega) hk0
   ·rw [S k,if_neg hkj,if_neg hki]
    by_cases hp:(k - 1) / 2=i
    ·rw [hp,S i,if_neg (by omega),if_pos rfl]
     exact hc k hk (by omega)
    ·rw [S _,if_neg hkp,if_neg hp]
     exact h1 k hk0 hk hp
 ·rw [show (j - 1) / 2=i by omega,S k,if_neg (by omega),if_neg (by omega),S i,if_neg (by omega),if_pos rfl]
  have:=h1 k hk0 hk (by omega)
  rw [hkp] at this
  exact this
theorem dn_end {hs:List Src} {i n:Nat} (h:dnOk hs i n) (hj:n≤2*i+1):HP hs n:=fun k hk0 hk=>h.1 k hk0 hk (by omega)
theorem dn_stop {hs:List Src} {i j n:Nat} (h:dnOk hs i n) (hc:∀ k,k < n→k=2*i+1∨k=2*i+2→lessS (sN hs k) (sN hs j)=false) (hl:lessS (sN hs j) (sN hs i)=false):HP hs n:=fun k hk0 hk=>by
 by_cases hp:(k - 1) / 2=i
 ·rw [hp]
  exact le_trans hl (hc k hk (by omega))
 ·exact h.1 k hk0 hk hp
theorem dn_root {hs:List Src} {n:Nat} (hn:hs.length=n+1) (h:HP hs hs.length):dnOk (swapS hs 0 n) 0 n:=by
 have S:=fun k=>sN_swap (hs:=hs) (i:=0) (j:=n) (k:=k) (by omega) (by omega)
 refine ⟨fun k hk0 hk hkp=>?_,fun k _ _ _ h0=>by omega⟩
 rw [S k,if_neg (by omega),if_neg (by omega),S _,if_neg (by omega),if_neg hkp]
 exact h k hk0 (by omega)
theorem HP_min {hs:List Src} {n:Nat} (h:HP hs n):∀ k,k < n→lessS (sN hs k) (sN hs 0)=false:=by
 intro k
 induction k using Nat.strongRecOn with
 | _ k ih =>
  intro hk
  by_cases h0:k=0
  ·subst h0
   exact ltT_irrefl _ _
  ·exact le_trans (ih ((k - 1) / 2) (by omega) (by omega)) (h k (by omega) hk)
theorem HP_take {hs:List Src} {n:Nat} (hn:n≤hs.length) (h:HP hs n):HP (hs.take n) (hs.take n).length:=by
 have hl:(hs.take n).length=n:=by rw [List.length_take];omega
 have S:∀ k,k < n→sN (hs.take n) k=sN hs k:=fun k hk=>by rw [sN_eq (by omega),sN_eq (by omega)];exact List.getElem_take
 intro k hk0 hk
 rw [hl] at hk
 rw [S k hk,S _ (by omega)]
 exact h k hk0 hk
def First (ls:List (List Ent)) (z:Ent):Prop:=∃ (i:Nat) (l:List Ent),ls[i]? = some l∧z∈l∧∀ (j:Nat) (m:List Ent),j < i→ls[j]? = some m→∀ u∈m,sameKS u z=false
theorem mrg_keep {a b:List Ent} {z:Ent} (h:z∈a):z∈mrg a b:=(mrg_has _ a b (Nat.le_refl _) z).1 h
theorem mrg_iff:∀ (n:Nat) (a b:List Ent),a.length+b.length≤n→Sr a→Sr b→∀ z,z∈mrg a b↔z∈a∨(z∈b∧∀ u∈a,sameKS u z=false):=by
 intro n
 induction n with
 | zero =>
  intro a b hn _ _ z
  have ha:a=[]:=List.eq_nil_of_length_eq_zero (by omega)
  have hb:b=[]:=List.eq_nil_of_length_eq_zero (by omega)
  subst ha;subst hb
  simp [mrg]
 | succ n ih =>
  intro a b hn sa sb z
  match a,b with
  | [],b=>rw [mrg];simp
  | x::r,[]=>rw [mrg];simp
  | x::r,y::s =>
   have sa':=List.pairwise_cons.1 sa
   have sb':=List.pairwise_cons.1 sb
   have bel:∀ u∈y::s,u=y∨ahd y u=true:=fun u hu=>by
    rcases List.mem_cons.1 hu with h | h
    ·exact .inl h
    ·exact .inr (sb'.1 u h)
   have ael:∀ u∈x::r,u=x∨ahd x u=true:=fun u hu=>by
    rcases List.mem_cons.1 hu with h | h
    ·exact .inl h
    ·exact .inr (sa'.1 u h)
   cases hxy:ahd x y with
   | true =>
    rw [mrg,if_pos hxy,List.mem_cons,ih r (y::s) (by simp at hn ⊢;omega) sa'.2 sb z,List.mem_cons (a:=z) (b:=x) (l:=r)]
    constructor
    ·rintro (h | h | h)
     ·exact .inl (.inl h)
     ·exact .inl (.inr h)
     ·refine .inr ⟨h.1,fun u hu=>?_⟩
      rcases List.mem_cons.1 hu with e | hu
      ·subst e
       cases hk:sameKS u z with
       | false=>rfl
       | true =>
        rcases bel z h.1 with e | e
        ·subst e;exact (ahd_same hxy hk).elim
        ·exact (ahd_same (ahd_trans hxy e) hk).elim
      ·exact h.2 u hu
    ·rintro ((h | h) | h)
     ·exact .inl h
     ·exact .inr (.inl h)
     ·exact .inr (.inr ⟨h.1,fun u hu=>h.2 u (List.mem_cons_of_mem _ hu)⟩)
   | false =>
    cases hyx:ahd y x with
    | true =>
     rw [mrg,if_neg (by rw [hxy];simp),if_pos hyx,List.mem_cons,ih (x::r) s (by simp at hn ⊢;omega) sa sb'.2 z,List.mem_cons (a:=z) (b:=y)]
     have hy:∀ u∈x::r,sameKS u y=false:=fun u hu=>by
      cases hk:sameKS u y with
      | false=>rfl
      | true =>
       rcases ael u hu with e | e
       ·subst e;exact (ahd_same hyx (sameKS_symm hk)).elim
       ·exact (ahd_same (ahd_trans hyx e) (sameKS_symm hk)).elim
     constructor
     ·rintro (h | h | h)
      ·subst h;exact .inr ⟨.inl rfl,hy⟩
      ·exact .inl h
      ·exact .inr ⟨.inr h.1,h.2⟩
     ·rintro (h | ⟨h | h,h2⟩)
      ·exact .inr (.inl h)
      ·exact .inl h
      ·exact .inr (.inr ⟨h,h2⟩)
    | false =>
     have hs:sameKS x y=true:=ahd_cases x y (by rw [hxy];simp) (by rw [hyx];simp)
     rw [mrg,if_neg (by rw [hxy];simp),if_neg (by rw [hyx];simp),ih (x::r) s (by simp at hn ⊢;omega) sa sb'.2 z,List.mem_cons (a:=z) (b:=y)]
     constructor
     ·rintro (h | h)
      ·exact .inl h
      ·exact .inr ⟨.inr h.1,h.2⟩
     ·rintro (h | ⟨h | h,h2⟩)
      ·exact .inl h
      ·subst h
       have:=h2 x List.mem_cons_self
       rw [hs] at this;cases this
      ·exact .inr ⟨h,h2⟩
theorem mF_iff (ls:List (List Ent)) (hs:∀ l∈ls,Sr l):∀ a:List Ent,Sr a→∀ z,z∈ls.foldl mrg a↔z∈a∨(First ls z∧∀ u∈a,sameKS u z=false):=by
 induction ls with
 | nil =>
  intro a _ z
  constructor
  ·intro h;exact .inl h
  ·rintro (h | ⟨⟨i,l,h,_⟩,_⟩)
   ·exact h
   ·simp at h
 | cons l r ih =>
  intro a sa z
  have sl:=hs l List.mem_cons_self
  rw [List.foldl_cons,ih (fun m hm=>hs m (List.mem_cons_of_mem _ hm)) _ (mrg_sr _ a l (Nat.le_refl _) sa sl) z,mrg_iff _ a l (Nat.le_refl _) sa sl z]
  constructor
  ·rintro ((h | ⟨h1,h2⟩) | ⟨⟨i,m,hm,hz,hj⟩,h2⟩)
   ·exact .inl h
   ·exact .inr ⟨⟨0,l,rfl,h1,fun j m hj=>by omega⟩,h2⟩
   ·have hmrg:∀ u,u∈mrg a l→sameKS u z=false:=h2
    refine .inr ⟨⟨i+1,m,hm,hz,fun j m' hj' hm' u hu=>?_⟩,fun u hu=>hmrg u (mrg_keep hu)⟩
    cases j with
    | zero =>
     have:m'=l:=by simpa using hm'.symm
     subst this
     cases hk:sameKS u z with
     | false=>rfl
     | true =>
      obtain ⟨o,ho,hs2⟩:=(mrg_has _ a m' (Nat.le_refl _) u).2 hu
      have:=hmrg o ho
      rw [sameKS_trans hs2 hk] at this;cases this
    | succ j=>exact hj j m' (by omega) (by simpa using hm') u hu
  ·rintro (h | ⟨⟨i,m,hm,hz,hj⟩,h2⟩)
   ·exact .inl (.inl h)
   ·cases i with
    | zero =>
     have:m=l:=by simpa using hm.symm
     subst this
     exact .inl (.inr ⟨hz,h2⟩)
    | succ i =>
     refine .inr ⟨⟨i,m,by simpa using hm,hz,fun j m' hj' hm' u hu=>hj (j+1) m' (by omega) (by simpa using hm') u hu⟩,fun u hu=>?_⟩
     rcases mrg_mem hu with h | h
     ·exact h2 u h
     ·exact hj 0 l (by omega) rfl u h
theorem mergedL_iff {ls:List (List Ent)} (hs:∀ l∈ls,Sr l) (z:Ent):z∈mergedL ls↔First ls z:=by
 unfold mergedL
 rw [mF_iff ls hs [] List.Pairwise.nil z]
 simp
structure Told (ls:List (List Ent)) (hs:List Src) (P:List (Ent×Nat)) (out:List Ent):Prop where
 left:∀ s∈hs,s.es≠[]∧Sr s.es∧∃ l,ls[s.no]? = some l∧∀ e∈s.es,e∈l
 apart:(hs.map Src.no).Nodup
 part:∀ p∈P,∃ l,ls[p.2]? = some l∧p.1∈l
 all:∀ i l e,ls[i]? = some l→e∈l→(e,i)∈P∨∃ s∈hs,s.no=i∧e∈s.es
 ahead:∀ p∈P,∀ s∈hs,∀ e∈s.es,ltT p.1 p.2 e s.no=true
 sorted:Sr out
 first:∀ o∈out,∃ j,(o,j)∈P∧∀ p∈P,sameKS p.1 o=true→j≤p.2
 has:∀ p∈P,∃ o∈out,sameKS o p.1=true
theorem told_end {ls:List (List Ent)} {P:List (Ent×Nat)} {out:List Ent} (hs:∀ l∈ls,Sr l) (h:Told ls [] P out):out=mergedL ls:=by
 refine sr_ext _ _ h.sorted (mF_sr ls hs [] List.Pairwise.nil) fun z=>?_
 show z∈out↔z∈mergedL ls
 rw [mergedL_iff hs]
 constructor
 ·intro hz
  obtain ⟨j,hj,hf⟩:=h.first z hz
  obtain ⟨l,hl,hzl⟩:=h.part _ hj
  refine ⟨j,l,hl,hzl,fun i m hi hm u hu=>?_⟩
  cases hk:sameKS u z with
  | false=>rfl
  | true =>
   rcases h.all i m u hm hu with hp | ⟨s,hs',_⟩
   ·have:=hf _ hp hk;simp only at this;omega
   ·cases hs'
 ·rintro ⟨i,l,hl,hz,hf⟩
  rcases h.all i l z hl hz with hp | ⟨s,hs',_⟩
  ·obtain ⟨o,ho,hk⟩:=h.has _ hp
   obtain ⟨j,hj,hm⟩:=h.first o ho
   have hji:=hm _ hp (sameKS_symm hk)
   simp only at hji hk
   obtain ⟨l',hl',hol⟩:=h.part _ hj
   by_cases hlt:j < i
   ·have:=hf j l' hlt hl' o hol
    rw [hk] at this;cases this
   ·have:j=i:=by omega
    subst this
    simp only at hl'
    rw [hl] at hl'
    obtain rfl:=Option.some.inj hl'
    have hks:=(sameKS_iff o z).1 hk
    have:=ks_eq (hs l (List.mem_of_getElem? hl)) hol hz hks.1 hks.2
    rw [← this];exact ho
  ·cases hs'
open Go.RowKit
def rdF:Nat→Nat→Nat→Nat→List UInt8→Nat×Nat
 | 0,_,_,_,_=>(0,0)
 | _+1,_,_,_,[]=>(0,0)
 | f+1,i,n,p,b::r=>if b.toNat < 128 then (if 1099511627776 < n+b.toNat % 128*p∨0 < i∧b.toNat=0 then (0,0) else (n+b.toNat % 128*p,i+1)) else rdF f (i+1) (n+b.toNat % 128*p) (p*128) r
def rdNum (bs:List UInt8):Nat×Nat:=rdF 6 0 0 1 bs
theorem rdF_end (f i n p:Nat) (bs:List UInt8) (k:Nat) (h:bs.length≤k):rdF f i n p (bs.drop k)=(0,0):=by
 rw [List.drop_eq_nil_of_le h];cases f<;>rfl
theorem rdF_more (f i n p k b:Nat) (bs:List UInt8) (h:k < bs.length) (hb:b=bs[k].toNat) (h1:128≤b):rdF (f+1) i n p (bs.drop k)=rdF f (i+1) (n+b % 128*p) (p*128) (bs.drop (k+1)):=by
 subst hb
 rw [List.drop_eq_getElem_cons h,rdF,if_neg (by omega)]
theorem rdF_no (f i n p k b:Nat) (bs:List UInt8) (h:k < bs.length) (hb:b=bs[k].toNat) (h1:b < 128) (h2:1099511627776 < n+b % 128*p∨0 < i∧b=0):rdF (f+1) i n p (bs.drop k)=(0,0):=by
 subst hb
 rw [List.drop_eq_getElem_cons h,rdF,if_pos h1,if_pos h2]
theorem rdF_yes (f i n p k b:Nat) (bs:List UInt8) (h:k < bs.length) (hb:b=bs[k].toNat) (h1:b < 128) (h2:¬ (1099511627776 < n+b % 128*p∨0 < i∧b=0)):rdF (f+1) i n p (bs.drop k)=(n+b % 128*p,i+1):=by
 subst hb
 rw [List.drop_eq_getElem_cons h,rdF,if_pos h1,if_neg h2]
theorem rdF_len (f:Nat):∀ (i n p:Nat) (bs:List UInt8),(rdF f i n p bs).2≤i+bs.length∧(rdF f i n p bs).1≤1099511627776∧(rdF f i n p bs).2≤i+f:=by
 induction f with
 | zero=>intro i n p bs;simp [rdF]
 | succ f ih =>
  intro i n p bs
  cases bs with
  | nil=>simp [rdF]
  | cons b r =>
   rw [rdF]
   split
   ·split
    ·simp
    ·simp only [List.length_cons];omega
   ·have:=ih (i+1) (n+b.toNat % 128*p) (p*128) r
    simp only [List.length_cons];omega
theorem rdNum_len (bs:List UInt8):(rdNum bs).2≤bs.length∧(rdNum bs).1≤1099511627776∧(rdNum bs).2≤6:=by have:=rdF_len 6 0 0 1 bs;unfold rdNum;omega
theorem mul_le (b p:Nat):b % 128*p≤127*p:=Nat.mul_le_mul_right p (by omega)
end Go.Proofs.YtmlmlemiidedcaaGreat
