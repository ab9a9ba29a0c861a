import Derived.Test.YtmlmlemiidedcaaGreatG05
namespace Go.Proofs.YtmlmlemiidedcaaGreat
set_option maxHeartbeats 16000000
set_option maxRecDepth 100000
def atI (ns:List Int) (n:Int):Nat:=(ns.takeWhile (fun a=>decide (a < n))).length
def putI (ns:List Int) (n:Int):List Int:=if ns[atI ns n]? = some n then ns else ns.take (atI ns n)++n::ns.drop (atI ns n)
theorem atI_le (ns:List Int) (n:Int):atI ns n≤ns.length:=(List.takeWhile_sublist _).length_le
theorem atI_lo:∀ (ns:List Int) (n:Int) (i:Nat) (h:i < ns.length),i < atI ns n→ns[i] < n
 | [],_,_,h,_=>by simp at h
 | a::r,n,i,h,hi=>by
  unfold atI at hi
  rw [List.takeWhile_cons] at hi
  split at hi
  ·rename_i ha
   cases i with
   | zero=>simpa using ha
   | succ i=>rw [List.getElem_cons_succ];exact atI_lo r n i (by simpa using h) (by simpa [atI] using hi)
  ·simp at hi
theorem atI_stop:∀ (ns:List Int) (n:Int) (h:atI ns n < ns.length),¬ ns[atI ns n] < n
 | [],_,h=>by simp at h
 | a::r,n,h=>by
  by_cases ha:a < n
  ·have e:atI (a::r) n=atI r n+1:=by unfold atI;rw [List.takeWhile_cons,if_pos (by simpa using ha)];rfl
   have h2:atI r n < r.length:=by rw [e,List.length_cons] at h;omega
   have:=atI_stop r n h2
   simp only [e,List.getElem_cons_succ]
   exact this
  ·have e:atI (a::r) n=0:=by unfold atI;rw [List.takeWhile_cons,if_neg (by simpa using ha)];rfl
   simp only [e,List.getElem_cons_zero]
   exact ha
theorem atI_of (ns:List Int) (n:Int) (k:Nat) (hk:k≤ns.length) (h1:∀ i (h:i < ns.length),i < k→ns[i] < n) (h2:∀ (h:k < ns.length),¬ ns[k] < n):atI ns n=k:=by
 have h3:=atI_le ns n
 rcases Nat.lt_trichotomy (atI ns n) k with h | h | h
 ·exact absurd (h1 _ (by omega) h) (atI_stop ns n (by omega))
 ·exact h
 ·exact absurd (atI_lo ns n k (by omega) h) (h2 (by omega))
theorem putI_mem (ns:List Int) (n x:Int):x∈putI ns n↔x=n∨x∈ns:=by
 unfold putI
 split
 ·rename_i h
  have hn:n∈ns:=List.mem_of_getElem? h
  exact ⟨.inr,fun h=>by rcases h with rfl | h;exact hn;exact h⟩
 ·rw [List.mem_append,List.mem_cons]
  constructor
  ·rintro (h | h | h)
   ·exact .inr (List.mem_of_mem_take h)
   ·exact .inl h
   ·exact .inr (List.mem_of_mem_drop h)
  ·rintro (h | h)
   ·exact .inr (.inl h)
   ·rw [← List.take_append_drop (atI ns n) ns] at h
    rcases List.mem_append.1 h with h | h
    ·exact .inl h
    ·exact .inr (.inr h)
theorem putI_len (ns:List Int) (n:Int):(putI ns n).length≤ns.length+1:=by
 have:=atI_le ns n
 unfold putI
 split
 ·omega
 ·simp;omega
def mk1 (key:ByteArray):Int:=((dig 1 key.data.toList % 256:Nat):Int)
def mk2 (key:ByteArray):Int:=((dig 1 (key.data.toList++[42]) % 256:Nat):Int)
def marksL (key:ByteArray):List Int:=putI [mk1 key] (mk2 key)
theorem mk1_in (key:ByteArray):0≤mk1 key∧mk1 key < 256:=by unfold mk1;omega
theorem mk2_in (key:ByteArray):0≤mk2 key∧mk2 key < 256:=by unfold mk2;omega
theorem marksL_mem (key:ByteArray) (x:Int):x∈marksL key↔x=mk2 key∨x=mk1 key:=by unfold marksL;rw [putI_mem];simp
theorem marksL_len (key:ByteArray):(marksL key).length≤2:=putI_len _ _
def bitsTo (ns:List Int) (ms:List Int):List Int:=ms.foldl putI ns
def bitsL (es:List Ent):List Int:=es.foldl (fun b e=>bitsTo b (marksL e.key)) []
theorem bitsTo_mem (ms:List Int):∀ (ns:List Int) (x:Int),x∈bitsTo ns ms↔x∈ns∨x∈ms:=by
 unfold bitsTo
 induction ms with
 | nil=>intro ns x;simp
 | cons m r ih=>intro ns x;rw [List.foldl_cons,ih,putI_mem,List.mem_cons];grind
theorem bitsF_mem (es:List Ent):∀ (ns:List Int) (x:Int),x∈es.foldl (fun b e=>bitsTo b (marksL e.key)) ns↔x∈ns∨∃ e∈es,x∈marksL e.key:=by
 induction es with
 | nil=>intro ns x;simp
 | cons e r ih =>
  intro ns x
  rw [List.foldl_cons,ih,bitsTo_mem]
  constructor
  ·rintro ((h | h) | ⟨y,hy,h⟩)
   ·exact .inl h
   ·exact .inr ⟨e,List.mem_cons_self,h⟩
   ·exact .inr ⟨y,List.mem_cons_of_mem _ hy,h⟩
  ·rintro (h | ⟨y,hy,h⟩)
   ·exact .inl (.inl h)
   ·rcases List.mem_cons.1 hy with rfl | hy
    ·exact .inl (.inr h)
    ·exact .inr ⟨y,hy,h⟩
theorem bitsL_mem (es:List Ent) (x:Int):x∈bitsL es↔∃ e∈es,x∈marksL e.key:=by unfold bitsL;rw [bitsF_mem];simp
theorem bitsTo_len (ms:List Int):∀ ns:List Int,(bitsTo ns ms).length≤ns.length+ms.length:=by
 unfold bitsTo
 induction ms with
 | nil=>intro ns;simp
 | cons m r ih=>intro ns;rw [List.foldl_cons];have:=ih (putI ns m);have:=putI_len ns m;rw [List.length_cons];omega
theorem bitsF_len (es:List Ent):∀ ns:List Int,(es.foldl (fun b e=>bitsTo b (marksL e.key)) ns).length≤ns.length+2*es.length:=by
 induction es with
 | nil=>intro ns;simp
 | cons e r ih =>
  intro ns
  rw [List.foldl_cons,List.length_cons]
  have h1:=ih (bitsTo ns (marksL e.key))
  have h2:=bitsTo_len (marksL e.key) ns
  have h3:=marksL_len e.key
  omega
theorem bitsL_len (es:List Ent):(bitsL es).length≤2*es.length:=by have:=bitsF_len es [];simpa [bitsL] using this
structure Tbl where
 first:ByteArray
 last:ByteArray
 bits:List Int
 blocks:List ByteArray
deriving DecidableEq
def zeroT:Tbl:=⟨⟨#[]⟩,⟨#[]⟩,[],[]⟩
def allF:List ByteArray→List Ent→Option (List Ent)
 | [],acc=>some acc
 | b::r,acc=>if (unpI b.data.toList).2=true∧1≤(unpI b.data.toList).1.length∧(unpI b.data.toList).1.length≤8 then allF r (acc++(unpI b.data.toList).1) else none
def allL (T:Tbl):List Ent×Bool:=if T.blocks.length < 1∨40 < T.blocks.length then ([],false) else match allF T.blocks [] with
 | none=>([],false)
 | some es=>(es,okL es)
def tableOk (T:Tbl):Bool:=(allL T).2 && decide (T.first=(nth (allL T).1 0).key) && decide (T.last=(nth (allL T).1 ((allL T).1.length - 1)).key) && decide (T.bits=bitsL (allL T).1)
def chunk (es:List Ent) (i:Nat):List Ent:=(es.drop i).take 8
def blkF (es:List Ent):Nat→Nat→List ByteArray
 | 0,_=>[]
 | n+1,i=>⟨(packA (chunk es i)).toArray⟩::blkF es n (i+8)
def blksL (es:List Ent):List ByteArray:=blkF es ((es.length+7) / 8) 0
def builtT (es:List Ent):Tbl:=⟨(nth es 0).key,(nth es (es.length - 1)).key,bitsL es,blksL es⟩
def builtOk (es:List Ent):Bool:=okL es && !decide (es.length=0)
def entriesL (T:Tbl):List Ent:=if tableOk T=true then (allL T).1 else []
theorem okL_sub {es fs:List Ent} (h:okL es=true) (hs:fs.Sublist es):okL fs=true:=by
 rw [okL_iff] at h ⊢
 exact ⟨Nat.le_trans hs.length_le h.1,fun e he=>h.2.1 e (hs.subset he),h.2.2.sublist hs⟩
theorem chunk_ok {es:List Ent} (h:okL es=true) (i:Nat):okL (chunk es i)=true:=okL_sub h ((List.take_sublist _ _).trans (List.drop_sublist _ _))
theorem allF_blk {es:List Ent} (h:okL es=true):∀ (n i:Nat) (acc:List Ent),i+8*n < es.length+8→i≤es.length→es.length≤i+8*n→allF (blkF es n i) acc=some (acc++es.drop i)
 | 0,i,acc,_,_,h2=>by rw [blkF,allF,List.drop_eq_nil_of_le (by omega),List.append_nil]
 | n+1,i,acc,h0,h1,h2=>by
  have hu:unpI (packA (chunk es i))=(chunk es i,true):=unpI_pack (chunk_ok h i)
  have hl:(chunk es i).length=min 8 (es.length - i):=by unfold chunk;rw [List.length_take,List.length_drop]
  have hd:(⟨(packA (chunk es i)).toArray⟩:ByteArray).data.toList=packA (chunk es i):=by simp
  rw [blkF,allF,hd,hu,if_pos ⟨rfl,by simp only;omega,by simp only;omega⟩]
  simp only
  by_cases hlast:es.length≤i+8
  ·have hn:n=0:=by omega
   subst hn
   rw [blkF,allF]
   unfold chunk
   rw [List.take_of_length_le (by rw [List.length_drop];omega)]
  ·rw [allF_blk h n (i+8) _ (by omega) (by omega) (by omega),List.append_assoc]
   unfold chunk
   rw [← List.drop_drop,List.take_append_drop]
theorem blkF_len (es:List Ent):∀ n i,(blkF es n i).length=n
 | 0,_=>rfl
 | n+1,i=>by rw [blkF,List.length_cons,blkF_len es n]
theorem all_built {es:List Ent} (h:builtOk es=true):allL (builtT es)=(es,true):=by
 simp only [builtOk,Bool.and_eq_true,Bool.not_eq_true',decide_eq_false_iff_not] at h
 have hl:=okL_len h.1
 unfold allL builtT blksL
 rw [if_neg (by rw [blkF_len];omega),allF_blk h.1 _ 0 [] (by omega) (by omega) (by omega)]
 simp [h.1]
theorem built_ok {es:List Ent} (h:builtOk es=true):tableOk (builtT es)=true:=by
 unfold tableOk
 rw [all_built h]
 simp [builtT]
theorem built_entries {es:List Ent} (h:builtOk es=true):entriesL (builtT es)=es:=by
 unfold entriesL
 rw [if_pos (built_ok h),all_built h]
theorem tableOk_parts {T:Tbl} (h:tableOk T=true):okL (entriesL T)=true∧entriesL T≠[]∧T.first=(nth (entriesL T) 0).key∧T.last=(nth (entriesL T) ((entriesL T).length - 1)).key∧T.bits=bitsL (entriesL T):=by
 have he:entriesL T=(allL T).1:=by unfold entriesL;rw [if_pos h]
 unfold tableOk at h
 simp only [Bool.and_eq_true,decide_eq_true_eq] at h
 obtain ⟨⟨⟨h1,h2⟩,h3⟩,h4⟩:=h
 rw [he]
 refine ⟨?_,?_,h2,h3,h4⟩
 ·unfold allL at h1 ⊢
  split at h1
  ·cases h1
  ·rename_i hb
   rw [if_neg hb]
   split at h1
   ·cases h1
   ·exact h1
 ·intro hn
  unfold allL at h1 hn
  split at h1
  ·cases h1
  ·rename_i hb
   rw [if_neg hb] at hn
   split at h1
   ·cases h1
   ·rename_i es hes
    rw [hes] at hn
    simp only at hn
    subst hn
    obtain ⟨b,r,hbr⟩:∃ b r,T.blocks=b::r:=by
     cases hT:T.blocks with
     | nil=>rw [hT] at hb;simp at hb
     | cons b r=>exact ⟨b,r,rfl⟩
    rw [hbr,allF] at hes
    split at hes
    ·rename_i hq
     have:=allF_grow r _ _ hes
     rw [List.nil_append] at this
     simp at this
     rw [this] at hq
     simp at hq
    ·cases hes
where
 allF_grow:∀ (bs:List ByteArray) (acc es:List Ent),allF bs acc=some es→∃ t,es=acc++t
  | [],acc,es,h=>by rw [allF] at h;cases h;exact ⟨[],by simp⟩
  | b::r,acc,es,h=>by
   rw [allF] at h
   split at h
   ·obtain ⟨t,ht⟩:=allF_grow r _ _ h;exact ⟨_,by rw [ht,List.append_assoc]⟩
   ·cases h
structure Tre where
 mem:List Ent
 young:List Tbl
 old:List Tbl
 seq:Int
 snaps:List Int
def zeroTr:Tre:=⟨[],[],[],0,[]⟩
def lenS (ls:List (List Ent)):Nat:=(ls.map List.length).sum
def tabL (T:Tre):List (List Ent):=(T.young++T.old).map entriesL
def lsT (T:Tre):List (List Ent):=T.mem::tabL T
def allOk (T:Tre):Bool:=okL T.mem && decide (T.young.length≤6) && decide (T.old.length≤1) && (T.young++T.old).all (fun t=>!decide ((entriesL t).length=0))
def allT (T:Tre):List Ent×Bool:=if allOk T=true then (mergedL (lsT T),decide ((mergedL (lsT T)).length=lenS (lsT T))) else ([],false)
def snapsOk (seq:Int) (ss:List Int):Bool:=(List.range ss.length).all (fun i=>decide (0≤ss.getD i 0) && decide (ss.getD i 0≤seq) && (decide (i=0) || decide (ss.getD (i - 1) 0 < ss.getD i 0)))
def newerAt (mem all:List Ent) (i:Nat):Bool:=!(kEq (nth all i).key (nth all (i+1)).key && hasKS mem (nth all (i+1)) && !hasKS mem (nth all i))
def newerL (mem all:List Ent):Bool:=(List.range (all.length - 1)).all (newerAt mem all)
def treeOk (T:Tre):Bool:=(allT T).2 && decide (0≤T.seq) && decide (T.seq≤1000000) && decide (T.snaps.length≤10) && snapsOk T.seq T.snaps && (allT T).1.all (fun e=>decide (e.seq≤T.seq)) && newerL T.mem (allT T).1
def Dsj (a b:List Ent):Prop:=∀ x∈a,∀ y∈b,sameKS x y=false
theorem mrg_dsj_len:∀ (n:Nat) (a b:List Ent),a.length+b.length≤n→Sr a→Sr b→((mrg a b).length=a.length+b.length↔Dsj a b):=by
 intro n
 induction n with
 | zero =>
  intro a b hn _ _
  have ha:a=[]:=List.eq_nil_of_length_eq_zero (by omega)
  have hb:b=[]:=List.eq_nil_of_length_eq_zero (by omega)
  subst ha;subst hb
  simp [mrg,Dsj]
 | succ n ih =>
  intro a b hn sa sb
  match a,b with
  | [],b=>rw [mrg];simp [Dsj]
  | x::r,[]=>rw [mrg];simp [Dsj]
  | x::r,y::s =>
   have sa':=List.pairwise_cons.1 sa
   have sb':=List.pairwise_cons.1 sb
   cases hxy:ahd x y with
   | true =>
    rw [mrg,if_pos hxy]
    have h1:=ih r (y::s) (by simp at hn ⊢;omega) sa'.2 sb
    have hx:∀ z∈y::s,sameKS x z=false:=fun z hz=>by
     cases hk:sameKS x z with
     | false=>rfl
     | true =>
      rcases List.mem_cons.1 hz with e | e
      ·subst e;exact (ahd_same hxy hk).elim
      ·exact (ahd_same (ahd_trans hxy (sb'.1 z e)) hk).elim
    constructor
    ·intro h
     have:=h1.1 (by simp at h ⊢;omega)
     intro u hu z hz
     rcases List.mem_cons.1 hu with e | e
     ·subst e;exact hx z hz
     ·exact this u e z hz
    ·intro h
     have:=h1.2 (fun u hu z hz=>h u (List.mem_cons_of_mem _ hu) z hz)
     simp at this ⊢;omega
   | false =>
    cases hyx:ahd y x with
    | true =>
     rw [mrg,if_neg (by rw [hxy];simp),if_pos hyx]
     have h1:=ih (x::r) s (by simp at hn ⊢;omega) sa sb'.2
     have hy:∀ z∈x::r,sameKS z y=false:=fun z hz=>by
      cases hk:sameKS z y with
      | false=>rfl
      | true =>
       rcases List.mem_cons.1 hz with e | e
       ·subst e;exact (ahd_same hyx (sameKS_symm hk)).elim
       ·exact (ahd_same (ahd_trans hyx (sa'.1 z e)) (sameKS_symm hk)).elim
     constructor
     ·intro h
      have:=h1.1 (by simp at h ⊢;omega)
      intro u hu z hz
      rcases List.mem_cons.1 hz with e | e
      ·subst e;exact hy u hu
      ·exact this u hu z e
     ·intro h
      have:=h1.2 (fun u hu z hz=>h u hu z (List.mem_cons_of_mem _ hz))
      simp at this ⊢;omega
    | false =>
     have hs:sameKS x y=true:=ahd_cases x y (by rw [hxy];simp) (by rw [hyx];simp)
     rw [mrg,if_neg (by rw [hxy];simp),if_neg (by rw [hyx];simp)]
     have hl:=mrg_len _ (x::r) s (Nat.le_refl _)
     constructor
     ·intro h;simp at h hl;omega
     ·intro h
      have:=h x List.mem_cons_self y List.mem_cons_self
      rw [hs] at this;cases this
theorem mF_dsj (ls:List (List Ent)) (hs:∀ l∈ls,Sr l):∀ a:List Ent,Sr a→((ls.foldl mrg a).length=a.length+lenS ls↔(∀ l∈ls,Dsj a l)∧ls.Pairwise Dsj):=by
 induction ls with
 | nil=>intro a _;simp [lenS]
 | cons l r ih =>
  intro a sa
  have sl:=hs l List.mem_cons_self
  have sm:=mrg_sr _ a l (Nat.le_refl _) sa sl
  have h1:=mrg_dsj_len _ a l (Nat.le_refl _) sa sl
  have h2:=mrg_len _ a l (Nat.le_refl _)
  have h3:=mF_len r (mrg a l)
  have hi:=ih (fun m hm=>hs m (List.mem_cons_of_mem _ hm)) (mrg a l) sm
  have e:lenS (l::r)=l.length+lenS r:=by simp [lenS]
  have h3':(r.foldl mrg (mrg a l)).length≤(mrg a l).length+lenS r:=h3
  rw [List.foldl_cons,e]
  constructor
  ·intro h
   have hd:=h1.1 (by omega)
   have hr:=hi.1 (by omega)
   have hmem:=mrg_iff _ a l (Nat.le_refl _) sa sl
   refine ⟨fun m hm=>?_,?_⟩
   ·rcases List.mem_cons.1 hm with e | e
    ·subst e;exact hd
    ·exact fun x hx y hy=>hr.1 m e x ((hmem x).2 (.inl hx)) y hy
   ·rw [List.pairwise_cons]
    refine ⟨fun m hm x hx y hy=>hr.1 m hm x ((hmem x).2 (.inr ⟨hx,fun u hu=>hd u hu x hx⟩)) y hy,hr.2⟩
  ·rintro ⟨h4,h5⟩
   have h6:=List.pairwise_cons.1 h5
   have hd:=h4 l List.mem_cons_self
   have hlen:=h1.2 hd
   have:=hi.2 ⟨fun m hm x hx y hy=>by
    rcases mrg_mem hx with hx | hx
    ·exact h4 m (List.mem_cons_of_mem _ hm) x hx y hy
    ·exact h6.1 m hm x hx y hy,h6.2⟩
   omega
theorem merged_dsj {ls:List (List Ent)} (hs:∀ l∈ls,Sr l):(mergedL ls).length=lenS ls↔ls.Pairwise Dsj:=by
 have:=mF_dsj ls hs [] List.Pairwise.nil
 unfold mergedL
 rw [show ([]:List Ent).length+lenS ls=lenS ls by simp] at this
 rw [this]
 exact ⟨fun h=>h.2,fun h=>⟨(fun l _ x hx=>by cases hx),h⟩⟩
theorem merged_mem {ls:List (List Ent)} (hs:∀ l∈ls,Sr l) (hd:ls.Pairwise Dsj) (z:Ent):z∈mergedL ls↔∃ l∈ls,z∈l:=by
 rw [mergedL_iff hs]
 constructor
 ·rintro ⟨i,l,h1,h2,_⟩
  exact ⟨l,List.mem_of_getElem? h1,h2⟩
 ·rintro ⟨l,hl,hz⟩
  obtain ⟨i,hi,rfl⟩:=List.getElem_of_mem hl
  refine ⟨i,_,List.getElem?_eq_getElem hi,hz,fun j m hj hm u hu=>?_⟩
  have hjl:j < ls.length:=by omega
  have hmj:ls[j]=m:=(List.getElem?_eq_some_iff.1 hm).2
  exact List.pairwise_iff_getElem.1 hd j i hjl hi hj u (by rw [hmj];exact hu) z hz
theorem merged_sr {ls:List (List Ent)} (hs:∀ l∈ls,Sr l):Sr (mergedL ls):=mF_sr ls hs [] List.Pairwise.nil
theorem entriesL_sr (t:Tbl):Sr (entriesL t):=by
 cases h:tableOk t with
 | true=>exact okL_sr (tableOk_parts h).1
 | false=>unfold entriesL;rw [if_neg (by rw [h];simp)];exact List.Pairwise.nil
theorem tabL_sr (T:Tre):∀ l∈tabL T,Sr l:=fun l hl=>by
 obtain ⟨t,_,rfl⟩:=List.mem_map.1 hl
 exact entriesL_sr t
theorem lsT_sr {T:Tre} (h:okL T.mem=true):∀ l∈lsT T,Sr l:=fun l hl=>by
 rcases List.mem_cons.1 hl with rfl | hl
 ·exact okL_sr h
 ·exact tabL_sr T l hl
structure TreeP (T:Tre):Prop where
 mem:okL T.mem=true
 young:T.young.length≤6
 old:T.old.length≤1
 full:∀ t∈T.young++T.old,tableOk t=true
 apart:(lsT T).Pairwise Dsj
 seq0:0≤T.seq
 seq1:T.seq≤1000000
 few:T.snaps.length≤10
 snaps:snapsOk T.seq T.snaps=true
 top:∀ l∈lsT T,∀ e∈l,e.seq≤T.seq
 newer:∀ x∈T.mem,∀ l∈tabL T,∀ y∈l,x.key=y.key→y.seq < x.seq
theorem entriesL_full {t:Tbl}:(entriesL t).length≠0↔tableOk t=true:=by
 cases h:tableOk t with
 | true =>
  have:=(tableOk_parts h).2.1
  simp only [iff_true]
  exact fun e=>this (List.eq_nil_of_length_eq_zero e)
 | false=>unfold entriesL;rw [if_neg (by rw [h];simp)];simp
theorem hasKS_mem {T:Tre} (hm:okL T.mem=true) (hd:(lsT T).Pairwise Dsj) {e:Ent} (he:e∈mergedL (lsT T)):hasKS T.mem e=true↔e∈T.mem:=by
 unfold hasKS
 rw [List.any_eq_true]
 constructor
 ·rintro ⟨x,hx,hk⟩
  have hxm:x∈mergedL (lsT T):=(merged_mem (lsT_sr hm) hd x).2 ⟨T.mem,List.mem_cons_self,hx⟩
  have hs:=(sameKS_iff x e).1 hk
  rw [← ks_eq (merged_sr (lsT_sr hm)) hxm he hs.1 hs.2]
  exact hx
 ·intro h
  exact ⟨e,h,sameKS_refl e⟩
theorem newer_iff {T:Tre} (hm:okL T.mem=true) (hd:(lsT T).Pairwise Dsj):newerL T.mem (mergedL (lsT T))=true↔∀ x∈T.mem,∀ l∈tabL T,∀ y∈l,x.key=y.key→y.seq < x.seq:=by
 have sr:=merged_sr (lsT_sr hm)
 have mm:=merged_mem (lsT_sr hm) hd
 have hk:=fun {e} he=>hasKS_mem (e:=e) hm hd he
 have hd':=List.pairwise_cons.1 hd
 obtain ⟨all,hall⟩:∃ all,all=mergedL (lsT T):=⟨_,rfl⟩
 rw [← hall] at sr mm hk ⊢
 have nm:∀ i,i < all.length→nth all i∈all:=fun i hi=>by rw [nth_eq hi];exact List.getElem_mem hi
 have ah:∀ i j,i < j→j < all.length→ahd (nth all i) (nth all j)=true:=fun i j hij hj=>by
  rw [nth_eq (show i < all.length by omega),nth_eq hj]
  exact List.pairwise_iff_getElem.1 sr i j (by omega) hj hij
 unfold newerL
 rw [List.all_eq_true]
 constructor
 ·intro h x hx l hl y hy hxy
  have hxa:x∈all:=(mm x).2 ⟨T.mem,List.mem_cons_self,hx⟩
  have hya:y∈all:=(mm y).2 ⟨l,List.mem_cons_of_mem _ hl,hy⟩
  have hyn:y ∉ T.mem:=fun e=>by
   have:=hd'.1 l hl y e y hy
   rw [sameKS_refl] at this;cases this
  obtain ⟨i,hi,hxi⟩:=List.getElem_of_mem hxa
  obtain ⟨j,hj,hyj⟩:=List.getElem_of_mem hya
  rw [← nth_eq hi] at hxi
  rw [← nth_eq hj] at hyj
  rcases Nat.lt_trichotomy i j with hij | hij | hij
  ·have:=ah i j hij hj
   rw [hxi,hyj,ahd_iff,hxy,kLt_irrefl] at this
   rcases this with h0 | h0
   ·cases h0
   ·exact h0.2
  ·subst hij
   rw [hxi] at hyj
   subst hyj
   exact absurd hx hyn
  ·exfalso
   have step:∀ d,j+d≤i→nth all (j+d) ∉ T.mem:=by
    intro d
    induction d with
    | zero=>intro _;rw [Nat.add_zero,hyj];exact hyn
    | succ d ihd =>
     intro hd2 hin
     have h0:=ihd (by omega)
     have hr:=h (j+d) (by rw [List.mem_range];omega)
     unfold newerAt at hr
     have e1:hasKS T.mem (nth all (j+d+1))=true:=(hk (nm _ (by omega))).2 hin
     have e2:hasKS T.mem (nth all (j+d))=false:=by
      cases e:hasKS T.mem (nth all (j+d)) with
      | false=>rfl
      | true=>exact absurd ((hk (nm _ (by omega))).1 e) h0
     have keyAt:∀ p,j≤p→p≤i→(nth all p).key=y.key:=fun p hp1 hp2=>by
      by_cases hpj:p=j
      ·rw [hpj,hyj]
      ·by_cases hpi:p=i
       ·rw [hpi,hxi,hxy]
       ·have:=key_mid (ah j p (by omega) (by omega)) (ah p i (by omega) hi) (by rw [hyj,hxi,hxy])
        rw [this,hyj]
     have e3:kEq (nth all (j+d)).key (nth all (j+d+1)).key=true:=by
      unfold kEq
      rw [keyAt _ (by omega) (by omega),keyAt _ (by omega) (by omega)]
      simp
     rw [e1,e2,e3] at hr
     simp at hr
   have:=step (i - j) (by omega)
   rw [show j+(i - j)=i by omega,hxi] at this
   exact this hx
 ·intro h i hi
  rw [List.mem_range] at hi
  unfold newerAt
  cases e3:kEq (nth all i).key (nth all (i+1)).key with
  | false=>rfl
  | true =>
   cases e1:hasKS T.mem (nth all (i+1)) with
   | false=>rfl
   | true =>
    have hin:=(hk (nm (i+1) (by omega))).1 e1
    cases e2:hasKS T.mem (nth all i) with
    | true=>rfl
    | false =>
     exfalso
     obtain ⟨l,hl,hy⟩:=(mm _).1 (nm i (by omega))
     rcases List.mem_cons.1 hl with rfl | hl
     ·rw [(hk (nm i (by omega))).2 hy] at e2;cases e2
     ·have hkey:(nth all i).key=(nth all (i+1)).key:=of_decide_eq_true e3
      have:=h _ hin l hl _ hy hkey.symm
      have h2:=ah i (i+1) (by omega) (by omega)
      rw [ahd_iff,hkey,kLt_irrefl] at h2
      rcases h2 with h2 | h2
      ·cases h2
      ·omega
theorem treeOk_iff (T:Tre):treeOk T=true↔TreeP T:=by
 unfold treeOk allT
 by_cases ha:allOk T=true
 ·rw [if_pos ha]
  have hp:=ha
  simp only [allOk,Bool.and_eq_true,decide_eq_true_eq,List.all_eq_true,Bool.not_eq_true',decide_eq_false_iff_not] at hp
  obtain ⟨⟨⟨hm,hy⟩,ho⟩,hf⟩:=hp
  have hs:=lsT_sr hm
  simp only [Bool.and_eq_true,decide_eq_true_eq,List.all_eq_true]
  constructor
  ·rintro ⟨⟨⟨⟨⟨⟨h1,h2⟩,h3⟩,h4⟩,h5⟩,h6⟩,h7⟩
   have hd:=(merged_dsj hs).1 h1
   refine ⟨hm,hy,ho,fun t ht=>entriesL_full.1 (hf t ht),hd,h2,h3,h4,h5,fun l hl e he=>h6 e ((merged_mem hs hd e).2 ⟨l,hl,he⟩),(newer_iff hm hd).1 h7⟩
  ·intro h
   exact ⟨⟨⟨⟨⟨⟨(merged_dsj hs).2 h.apart,h.seq0⟩,h.seq1⟩,h.few⟩,h.snaps⟩,fun e he=>by
    obtain ⟨l,hl,hel⟩:=(merged_mem hs h.apart e).1 he
    exact h.top l hl e hel⟩,(newer_iff hm h.apart).2 h.newer⟩
 ·rw [if_neg ha]
  simp only [Bool.false_and,Bool.false_eq_true,false_iff]
  intro h
  apply ha
  simp only [allOk,Bool.and_eq_true,decide_eq_true_eq,List.all_eq_true,Bool.not_eq_true',decide_eq_false_iff_not]
  exact ⟨⟨⟨h.mem,h.young⟩,h.old⟩,fun t ht=>entriesL_full.2 (h.full t ht)⟩
theorem tree_all {T:Tre} (h:TreeP T):allT T=(mergedL (lsT T),true):=by
 have h2:=(treeOk_iff T).2 h
 unfold treeOk at h2
 simp only [Bool.and_eq_true] at h2
 have h3:=h2.1.1.1.1.1.1
 unfold allT at h3 ⊢
 split
 ·rename_i ha
  rw [if_pos ha] at h3
  rw [show decide ((mergedL (lsT T)).length=lenS (lsT T))=true from h3]
 ·rename_i ha
  rw [if_neg ha] at h3
  cases h3
theorem seen_iff {es:List Ent} (hs:Sr es) (k:ByteArray) (q:Int) (e:Ent):seenL es k q=some e↔e∈es∧e.key=k∧e.seq≤q∧∀ x∈es,x.key=k→x.seq≤q→x.seq≤e.seq:=by
 unfold seenL
 rw [find_sr _ es hs e]
 simp only [seenP,kEq,Bool.and_eq_true,decide_eq_true_eq]
 constructor
 ·rintro ⟨h1,⟨h2,h3⟩,h4⟩
  refine ⟨h1,h2,h3,fun x hx hk hq=>?_⟩
  rcases h4 x hx ⟨hk,hq⟩ with h | h
  ·rw [h];exact Int.le_refl _
  ·rw [ahd_iff,h2,hk,kLt_irrefl] at h
   rcases h with h | h
   ·cases h
   ·omega
 ·rintro ⟨h1,h2,h3,h4⟩
  refine ⟨h1,⟨h2,h3⟩,fun x hx ⟨hk,hq⟩=>?_⟩
  have:=h4 x hx hk hq
  by_cases he:x.seq=e.seq
  ·exact .inl (ks_eq hs hx h1 (by rw [hk,h2]) he)
  ·right
   rw [ahd_iff]
   exact .inr ⟨by rw [h2,hk],by omega⟩
theorem seen_none {es:List Ent} (k:ByteArray) (q:Int):seenL es k q=none↔∀ x∈es,x.key=k→¬ x.seq≤q:=by
 unfold seenL
 rw [List.find?_eq_none]
 simp only [seenP,kEq,Bool.and_eq_true,decide_eq_true_eq,not_and]
theorem seen_ext {a b:List Ent} (ha:Sr a) (hb:Sr b) (k:ByteArray) (q:Int) (h:∀ x,x.key=k→x.seq≤q→(x∈a↔x∈b)):seenL a k q=seenL b k q:=by
 cases h1:seenL a k q with
 | none =>
  symm
  rw [seen_none] at h1 ⊢
  intro x hx hk hq
  exact h1 x ((h x hk hq).2 hx) hk hq
 | some e =>
  symm
  rw [seen_iff ha] at h1
  rw [seen_iff hb]
  obtain ⟨g1,g2,g3,g4⟩:=h1
  exact ⟨(h e g2 g3).1 g1,g2,g3,fun x hx hk hq=>g4 x ((h x hk hq).2 hx) hk hq⟩
def tellE:Option Ent→Option ByteArray
 | some e=>if e.gone=true then none else some e.val
 | none=>none
def readL (es:List Ent) (k:ByteArray) (q:Int):Option ByteArray:=tellE (seenL es k q)
def readT (T:Tre) (k:ByteArray) (q:Int):Option ByteArray:=if treeOk T=true then readL (mergedL (lsT T)) k q else none
theorem TreeP.sr {T:Tre} (h:TreeP T):Sr (mergedL (lsT T)):=merged_sr (lsT_sr h.mem)
theorem TreeP.all {T:Tre} (h:TreeP T) (z:Ent):z∈mergedL (lsT T)↔∃ l∈lsT T,z∈l:=merged_mem (lsT_sr h.mem) h.apart z
theorem readT_eq {T:Tre} (h:TreeP T) (k:ByteArray) (q:Int):readT T k q=readL (mergedL (lsT T)) k q:=by unfold readT;rw [if_pos ((treeOk_iff T).2 h)]
structure Wri where
 key:ByteArray
 val:ByteArray
 gone:Bool
def wriE (x:Wri) (s:Int):Ent:=⟨x.key,x.val,s,x.gone⟩
def wriOk (x:Wri):Bool:=okE (wriE x 1)
theorem wriOk_at {x:Wri} (h:wriOk x=true) {s:Int} (h1:1≤s) (h2:s≤1000000):okE (wriE x s)=true:=by
 unfold wriOk okE at h
 unfold okE
 simp only [wriE,Bool.and_eq_true] at h ⊢
 exact ⟨⟨h.1.1,decide_eq_true h1⟩,decide_eq_true h2⟩
def put1 (T:Tre) (x:Wri):Tre:=⟨insE T.mem (wriE x (T.seq+1)),T.young,T.old,T.seq+1,T.snaps⟩
theorem insE_mem (es:List Ent) (e z:Ent):z∈insE es e↔z=e∨z∈es:=by
 unfold insE
 rw [List.mem_append,List.mem_cons]
 have:z∈es↔z∈es.take (atE es e)∨z∈es.drop (atE es e):=by
  conv=>lhs;rw [← List.take_append_drop (atE es e) es]
  rw [List.mem_append]
 rw [this]
 constructor
 ·rintro (h | h | h)
  ·exact .inr (.inl h)
  ·exact .inl h
  ·exact .inr (.inr h)
 ·rintro (h | h | h)
  ·exact .inr (.inl h)
  ·exact .inl h
  ·exact .inr (.inr h)
theorem snapsOk_iff (seq:Int) (ss:List Int):snapsOk seq ss=true↔(∀ s∈ss,0≤s∧s≤seq)∧ss.Pairwise (· < ·):=by
 unfold snapsOk
 rw [List.all_eq_true]
 have gd2:∀ i (hi:i < ss.length),ss.getD i 0=ss[i]:=fun i hi=>by simp [List.getD,List.getElem?_eq_getElem hi]
 constructor
 ·intro h
  have h1:∀ i (hi:i < ss.length),(0≤ss[i]∧ss[i]≤seq)∧(i=0∨ss.getD (i - 1) 0 < ss[i]):=fun i hi=>by
   have:=h i (List.mem_range.2 hi)
   simp only [Bool.and_eq_true,Bool.or_eq_true,decide_eq_true_eq] at this
   rw [gd2 i hi] at this
   exact this
  refine ⟨fun s hs=>?_,?_⟩
  ·obtain ⟨i,hi,rfl⟩:=List.getElem_of_mem hs
   exact (h1 i hi).1
  ·rw [List.pairwise_iff_getElem]
   intro i j hi hj hij
   have step:∀ d (hd:i+d+1 < ss.length),ss[i] < ss[i+d+1]:=by
    intro d
    induction d with
    | zero =>
     intro hd
     rcases (h1 (i+1) (by omega)).2 with h0 | h0
     ·omega
     ·rw [show i+1 - 1=i by omega,gd2 i hi] at h0
      exact h0
    | succ d ih =>
     intro hd
     have a:=ih (by omega)
     rcases (h1 (i+(d+1)+1) hd).2 with h0 | h0
     ·omega
     ·rw [show i+(d+1)+1 - 1=i+d+1 by omega,gd2 _ (by omega)] at h0
      omega
   have:=step (j - i - 1) (by omega)
   simp only [show i+(j - i - 1)+1=j by omega] at this
   exact this
 ·rintro ⟨h1,h2⟩ i hi
  rw [List.mem_range] at hi
  simp only [Bool.and_eq_true,Bool.or_eq_true,decide_eq_true_eq]
  rw [gd2 i hi]
  have:=h1 _ (List.getElem_mem hi)
  refine ⟨this,?_⟩
  by_cases h0:i=0
  ·exact .inl h0
  ·right
   rw [gd2 (i - 1) (by omega)]
   exact List.pairwise_iff_getElem.1 h2 (i - 1) i (by omega) hi (by omega)
theorem snaps_up {a b:Int} {ss:List Int} (h:snapsOk a ss=true) (hab:a≤b):snapsOk b ss=true:=by
 rw [snapsOk_iff] at h ⊢
 exact ⟨fun s hs=>⟨(h.1 s hs).1,by have:=(h.1 s hs).2;omega⟩,h.2⟩
theorem put1_tree {T:Tre} (h:TreeP T) {x:Wri} (hx:wriOk x=true) (hs:T.seq < 1000000) (hl:T.mem.length < 300):TreeP (put1 T x):=by
 have hd:=List.pairwise_cons.1 h.apart
 have he:okE (wriE x (T.seq+1))=true:=wriOk_at hx (by have:=h.seq0;omega) (by omega)
 have hno:∀ y,(∃ l∈lsT T,y∈l)→sameKS y (wriE x (T.seq+1))=false:=fun y ⟨l,hl,hy⟩=>by
  cases hk:sameKS y (wriE x (T.seq+1)) with
  | false=>rfl
  | true =>
   have h1:=((sameKS_iff _ _).1 hk).2
   have h2:=h.top l hl y hy
   simp only [wriE] at h1
   omega
 have hpk:putOk T.mem (wriE x (T.seq+1))=true:=by
  simp only [putOk,Bool.and_eq_true,Bool.not_eq_true',decide_eq_false_iff_not]
  refine ⟨⟨⟨h.mem,he⟩,by omega⟩,?_⟩
  cases hk:hasKS T.mem (wriE x (T.seq+1)) with
  | false=>rfl
  | true =>
   unfold hasKS at hk
   rw [List.any_eq_true] at hk
   obtain ⟨y,hy,hyk⟩:=hk
   have:=hno y ⟨T.mem,List.mem_cons_self,hy⟩
   rw [hyk] at this;cases this
 refine ⟨insE_ok hpk,h.young,h.old,h.full,?_,by show (0:Int)≤T.seq+1;have:=h.seq0;omega,by show T.seq+1≤1000000;omega,h.few,snaps_up h.snaps (show T.seq≤T.seq+1 by omega),fun l hl e hel=>?_,fun a ha l hl y hy hk=>?_⟩
 ·show (insE T.mem (wriE x (T.seq+1))::tabL T).Pairwise Dsj
  rw [List.pairwise_cons]
  refine ⟨fun l hl a ha y hy=>?_,hd.2⟩
  rcases (insE_mem _ _ _).1 ha with rfl | ha
  ·cases hk:sameKS (wriE x (T.seq+1)) y with
   | false=>rfl
   | true=>have:=hno y ⟨l,List.mem_cons_of_mem _ hl,hy⟩;rw [sameKS_symm hk] at this;cases this
  ·exact hd.1 l hl a ha y hy
 ·show e.seq≤T.seq+1
  rcases List.mem_cons.1 (show l∈insE T.mem (wriE x (T.seq+1))::tabL T from hl) with rfl | hl
  ·rcases (insE_mem _ _ _).1 hel with rfl | hel
   ·exact Int.le_refl _
   ·have:=h.top T.mem List.mem_cons_self e hel;omega
  ·have:=h.top l (List.mem_cons_of_mem _ hl) e hel;omega
 ·rcases (insE_mem _ _ _).1 ha with rfl | ha
  ·have:=h.top l (List.mem_cons_of_mem _ hl) y hy
   show y.seq < T.seq+1
   omega
  ·exact h.newer a ha l hl y hy hk
theorem put1_all {T:Tre} (h:TreeP T) {x:Wri} (h':TreeP (put1 T x)) (z:Ent):z∈mergedL (lsT (put1 T x))↔z=wriE x (T.seq+1)∨z∈mergedL (lsT T):=by
 rw [h'.all,h.all]
 constructor
 ·rintro ⟨l,hl,hz⟩
  rcases List.mem_cons.1 (show l∈insE T.mem (wriE x (T.seq+1))::tabL T from hl) with rfl | hl
  ·rcases (insE_mem _ _ _).1 hz with hz | hz
   ·exact .inl hz
   ·exact .inr ⟨T.mem,List.mem_cons_self,hz⟩
  ·exact .inr ⟨l,List.mem_cons_of_mem _ hl,hz⟩
 ·rintro (hz | ⟨l,hl,hz⟩)
  ·exact ⟨_,List.mem_cons_self,(insE_mem _ _ _).2 (.inl hz)⟩
  ·rcases List.mem_cons.1 hl with rfl | hl
   ·exact ⟨_,List.mem_cons_self,(insE_mem _ _ _).2 (.inr hz)⟩
   ·exact ⟨l,List.mem_cons_of_mem _ hl,hz⟩
theorem put1_before {T:Tre} (h:TreeP T) {x:Wri} (h':TreeP (put1 T x)) (k:ByteArray) {q:Int} (hq:q≤T.seq):readT (put1 T x) k q=readT T k q:=by
 rw [readT_eq h',readT_eq h]
 unfold readL
 rw [seen_ext h'.sr h.sr k q (fun z _ hz=>?_)]
 rw [put1_all h h']
 constructor
 ·rintro (e | e)
  ·subst e
   simp only [wriE] at hz
   omega
  ·exact e
 ·exact .inr
theorem seen_past {T:Tre} (h:TreeP T) (k:ByteArray) {q:Int} (hq:T.seq≤q):seenL (mergedL (lsT T)) k q=seenL (mergedL (lsT T)) k T.seq :=
 by
  cases h1:seenL (mergedL (lsT T)) k T.seq with
  | none =>
   rw [seen_none] at h1 ⊢
   intro x hx hk _
   obtain ⟨l,hl,hxl⟩:=(h.all x).1 hx
   exact h1 x hx hk (h.top l hl x hxl)
  | some e =>
   rw [seen_iff h.sr] at h1 ⊢
   obtain ⟨g1,g2,g3,g4⟩:=h1
   refine ⟨g1,g2,by omega,fun x hx hk _=>?_⟩
   obtain ⟨l,hl,hxl⟩:=(h.all x).1 hx
   exact g4 x hx hk (h.top l hl x hxl)
theorem put1_now {T:Tre} (h:TreeP T) {x:Wri} (h':TreeP (put1 T x)) (k:ByteArray):readT (put1 T x) k (T.seq+1)=if kEq x.key k=true then (if x.gone=true then none else some x.val) else readT T k T.seq:=by
 rw [readT_eq h',readT_eq h]
 unfold readL
 by_cases hk:kEq x.key k=true
 ·rw [if_pos hk]
  have:seenL (mergedL (lsT (put1 T x))) k (T.seq+1)=some (wriE x (T.seq+1)):=by
   rw [seen_iff h'.sr]
   refine ⟨(put1_all h h' _).2 (.inl rfl),of_decide_eq_true hk,Int.le_refl _,fun z _ _ hz=>hz⟩
  rw [this]
  rfl
 ·rw [if_neg hk]
  have hk':x.key≠k:=fun e=>hk (by simp [kEq,e])
  rw [← seen_past h k (q:=T.seq+1) (by omega),seen_ext h'.sr h.sr k (T.seq+1) (fun z hz _=>?_)]
  rw [put1_all h h']
  constructor
  ·rintro (e | e)
   ·subst e;exact absurd hz hk'
   ·exact e
  ·exact .inr
def spillT (T:Tre):Tre:=⟨[],builtT T.mem::T.young,T.old,T.seq,T.snaps⟩
theorem spill_ls {T:Tre} (hm:okL T.mem=true) (h0:T.mem.length≠0):lsT (spillT T)=[]::T.mem::tabL T:=by
 unfold lsT tabL spillT
 have:builtOk T.mem=true:=by simp [builtOk,hm,h0]
 simp [built_entries this]
theorem spill_tree {T:Tre} (h:TreeP T) (h0:T.mem.length≠0) (hy:T.young.length < 6):TreeP (spillT T):=by
 have hls:=spill_ls h.mem h0
 have hb:builtOk T.mem=true:=by simp [builtOk,h.mem,h0]
 refine ⟨rfl,by show T.young.length+1≤6;omega,h.old,fun t ht=>?_,?_,h.seq0,h.seq1,h.few,h.snaps,fun l hl e he=>?_,fun x hx=>by cases hx⟩
 ·rcases List.mem_cons.1 (show t∈builtT T.mem::(T.young++T.old) from ht) with rfl | ht
  ·exact built_ok hb
  ·exact h.full t ht
 ·rw [hls,List.pairwise_cons]
  exact ⟨(fun l _ x hx=>by cases hx),h.apart⟩
 ·rw [hls] at hl
  rcases List.mem_cons.1 hl with rfl | hl
  ·cases he
  ·exact h.top l hl e he
def sinkL (T:Tre):List Ent:=bottomOf (seensL (mergedL (tabL T)) (T.snaps++[T.seq]))
def sinkT (T:Tre):Tre:=⟨T.mem,[],if (sinkL T).length=0 then [] else [builtT (sinkL T)],T.seq,T.snaps⟩
theorem tab_apart {T:Tre} (h:TreeP T):(tabL T).Pairwise Dsj:=(List.pairwise_cons.1 h.apart).2
theorem tab_mem {T:Tre} (h:TreeP T) (z:Ent):z∈mergedL (tabL T)↔∃ l∈tabL T,z∈l:=merged_mem (tabL_sr T) (tab_apart h) z
theorem entries_okE {T:Tre} (h:TreeP T) {l:List Ent} (hl:l∈tabL T) {e:Ent} (he:e∈l):okE e=true:=by
 obtain ⟨t,ht,rfl⟩:=List.mem_map.1 hl
 exact ((okL_iff _).1 (tableOk_parts (h.full t ht)).1).2.1 e he
theorem tab_ok {T:Tre} (h:TreeP T) (hn:(mergedL (tabL T)).length≤300):okL (mergedL (tabL T))=true:=by
 rw [okL_iff]
 refine ⟨hn,fun e he=>?_,merged_sr (tabL_sr T)⟩
 obtain ⟨l,hl,hel⟩:=(tab_mem h e).1 he
 exact entries_okE h hl hel
theorem sink_sub {T:Tre} (h:TreeP T) (hn:(mergedL (tabL T)).length≤300):(sinkL T).Sublist (mergedL (tabL T)):=(bottom_sub _).trans (seens_sub (tab_ok h hn) _)
theorem sink_ok {T:Tre} (h:TreeP T) (hn:(mergedL (tabL T)).length≤300):okL (sinkL T)=true:=okL_subl (tab_ok h hn) (sink_sub h hn)
theorem sink_tab {T:Tre} (h:TreeP T) (hn:(mergedL (tabL T)).length≤300):tabL (sinkT T)=if (sinkL T).length=0 then [] else [sinkL T]:=by
 unfold tabL sinkT
 by_cases h0:(sinkL T).length=0
 ·simp [h0]
 ·have:builtOk (sinkL T)=true:=by simp [builtOk,sink_ok h hn,h0]
  simp [h0,built_entries this]
theorem sink_in {T:Tre} (h:TreeP T) (hn:(mergedL (tabL T)).length≤300) {l:List Ent} (hl:l∈tabL (sinkT T)) {e:Ent} (he:e∈l):e∈sinkL T:=by
 rw [sink_tab h hn] at hl
 split at hl
 ·cases hl
 ·rw [List.mem_singleton.1 hl] at he;exact he
theorem sink_tree {T:Tre} (h:TreeP T) (hn:(mergedL (tabL T)).length≤300):TreeP (sinkT T):=by
 have hin:∀ l∈tabL (sinkT T),∀ e∈l,∃ m∈tabL T,e∈m:=fun l hl e he=>(tab_mem h e).1 ((sink_sub h hn).subset (sink_in h hn hl he))
 have hd:=List.pairwise_cons.1 h.apart
 refine ⟨h.mem,Nat.zero_le _,?_,fun t ht=>?_,?_,h.seq0,h.seq1,h.few,h.snaps,fun l hl e he=>?_,fun x hx l hl y hy hk=>?_⟩
 ·unfold sinkT
  split
  ·exact Nat.zero_le _
  ·exact Nat.le_refl _
 ·have ht':t∈(if (sinkL T).length=0 then [] else [builtT (sinkL T)]):=by simpa [sinkT] using ht
  split at ht'
  ·cases ht'
  ·rename_i h0
   rw [List.mem_singleton.1 ht']
   exact built_ok (by simp [builtOk,sink_ok h hn,h0])
 ·show (T.mem::tabL (sinkT T)).Pairwise Dsj
  rw [List.pairwise_cons]
  refine ⟨fun l hl x hx y hy=>?_,?_⟩
  ·obtain ⟨m,hm,hym⟩:=hin l hl y hy
   exact hd.1 m hm x hx y hym
  ·rw [sink_tab h hn]
   split
   ·exact List.Pairwise.nil
   ·exact List.pairwise_singleton _ _
 ·rcases List.mem_cons.1 (show l∈T.mem::tabL (sinkT T) from hl) with rfl | hl
  ·exact h.top T.mem List.mem_cons_self e he
  ·obtain ⟨m,hm,hem⟩:=hin l hl e he
   exact h.top m (List.mem_cons_of_mem _ hm) e hem
 ·obtain ⟨m,hm,hym⟩:=hin l hl y hy
  exact h.newer x hx m hm y hym hk
def snapT (T:Tre):Tre:=⟨T.mem,T.young,T.old,T.seq,T.snaps++[T.seq]⟩
theorem snap_tree {T:Tre} (h:TreeP T) (hn:T.snaps.length < 10) (hs:∀ s∈T.snaps,s≠T.seq):TreeP (snapT T):=by
 refine ⟨h.mem,h.young,h.old,h.full,h.apart,h.seq0,h.seq1,?_,?_,h.top,h.newer⟩
 ·show (T.snaps++[T.seq]).length≤10
  rw [List.length_append];simp;omega
 ·have:=(snapsOk_iff _ _).1 h.snaps
  show snapsOk T.seq (T.snaps++[T.seq])=true
  rw [snapsOk_iff]
  refine ⟨fun s hs'=>?_,?_⟩
  ·rcases List.mem_append.1 hs' with e | e
   ·exact this.1 s e
   ·rw [List.mem_singleton.1 e];exact ⟨h.seq0,Int.le_refl _⟩
  ·rw [List.pairwise_append]
   refine ⟨this.2,by simp,fun a ha b hb=>?_⟩
   rw [List.mem_singleton.1 hb]
   have h1:=(this.1 a ha).2
   have h2:=hs a ha
   omega
theorem snaps_last {T:Tre} (h:TreeP T) {s:Int} (hs:s∈T.snaps) (he:s=T.seq):T.snaps.getD (T.snaps.length - 1) 0=T.seq:=by
 have:=(snapsOk_iff _ _).1 h.snaps
 obtain ⟨i,hi,rfl⟩:=List.getElem_of_mem hs
 have hl:T.snaps.getD (T.snaps.length - 1) 0=T.snaps[T.snaps.length - 1]'(by omega):=by simp [List.getD,List.getElem?_eq_getElem (show T.snaps.length - 1 < T.snaps.length by omega)]
 rw [hl]
 by_cases hi2:i=T.snaps.length - 1
 ·subst hi2;exact he
 ·have h1:=List.pairwise_iff_getElem.1 this.2 i (T.snaps.length - 1) hi (by omega) (by omega)
  have h2:=(this.1 _ (List.getElem_mem (show T.snaps.length - 1 < T.snaps.length by omega))).2
  omega
def freeT (T:Tre) (s:Int):Tre:=⟨T.mem,T.young,T.old,T.seq,T.snaps.filter (fun x=>decide (x≠s))⟩
theorem free_tree {T:Tre} (h:TreeP T) (s:Int):TreeP (freeT T s):=by
 have hsub:(T.snaps.filter (fun x=>decide (x≠s))).Sublist T.snaps:=List.filter_sublist
 have:=(snapsOk_iff _ _).1 h.snaps
 refine ⟨h.mem,h.young,h.old,h.full,h.apart,h.seq0,h.seq1,Nat.le_trans hsub.length_le h.few,?_,h.top,h.newer⟩
 show snapsOk T.seq (T.snaps.filter (fun x=>decide (x≠s)))=true
 rw [snapsOk_iff]
 exact ⟨fun x hx=>this.1 x (hsub.subset hx),this.2.sublist hsub⟩
theorem zero_tree:TreeP zeroTr:=by
 refine ⟨rfl,Nat.zero_le _,Nat.zero_le _,(fun t ht=>by cases ht),List.pairwise_singleton _ _,Int.le_refl _,by decide,Nat.zero_le _,rfl,fun l hl e he=>?_,(fun x hx=>by cases hx)⟩
 rw [List.mem_singleton.1 (show l∈[([]:List Ent)] from hl)] at he
 cases he
end Go.Proofs.YtmlmlemiidedcaaGreat
