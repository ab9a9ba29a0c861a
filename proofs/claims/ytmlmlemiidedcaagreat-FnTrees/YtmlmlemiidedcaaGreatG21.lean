import Derived.Test.YtmlmlemiidedcaaGreatMrgSpec3
namespace Go.Proofs.YtmlmlemiidedcaaGreat
set_option maxHeartbeats 16000000
set_option maxRecDepth 100000
open Go.RowKit
open Go.RowKit
theorem cut_at (v:Value) (es:List Ent) (i j:Nat) (x y:Int) (w:World) (hx:x=(i:Int)) (hy:y=(j:Int)) (hr:RdE w v es) (hij:i≤j) (hj:j≤es.length) :
 Calls Tryz.prog 98 #[v,.int .i64 x,.int .i64 y] w fun e w'=>∃ u,e=.returned u∧(∀ W,RdE W v es→RdE W u ((es.take j).drop i))∧w'=w:=by
 subst hx;subst hy;exact cut_any v es i j w hr hij hj
def OwnP (w:World) (base:Nat) (v:Value) (ps:List (Value×List Ent)):Prop:=w.ownsRow base 24 1 v ps.length (ps.map (·.1))
theorem OwnP.pieces {w:World} {base:Nat} {v:Value} {ps:List (Value×List Ent)} (h:OwnP w base v ps) (hp:∀ p∈ps,RdE w p.1 p.2):Pieces w v ps:=by
 have h':=h
 rcases h.2 with ⟨rfl,h0⟩ | ⟨g,cap,cur,rfl,hb,hg,hn,hc,hs,ht⟩
 ·exact .inl ⟨rfl,List.length_eq_zero_iff.1 h0⟩
 ·refine .inr ⟨g,0,cap,rfl,hn,hc,fun i hi=>⟨?_,hp _ (List.getElem_mem hi)⟩⟩
  have:=World.ownsRow.cellAt h' i (by omega)
  rw [Nat.zero_add,this]
  simp [hi]
theorem OwnP.below {w w':World} {base:Nat} {v:Value} {ps:List (Value×List Ent)} (h:OwnP w base v ps) (hb:Below w.heap.size w w'):OwnP w' base v ps:=own_below h hb
theorem OwnP.mono {w:World} {base base':Nat} {v:Value} {ps:List (Value×List Ent)} (h:OwnP w base v ps) (hb:base'≤base):OwnP w base' v ps:=by
 refine ⟨h.1,?_⟩
 rcases h.2 with h2 | ⟨g,cap,cur,hv,hg,r⟩
 ·exact .inl h2
 ·exact .inr ⟨g,cap,cur,hv,Nat.le_trans hb hg,r⟩
def nxt (out:List Ent) (x:Ent):List Ent:=if out.length=0∨sameKS (nth out (out.length - 1)) x=false then out++[x] else out
def rest (hs1:List Src) (v:Value) (r:List Ent) (no:Nat):List Src:=if r.length=0 then hs1 else hs1++[⟨v,r,no⟩]
theorem rest_mem {hs1:List Src} {v:Value} {r:List Ent} {no:Nat} {s:Src} (h:s∈rest hs1 v r no):s∈hs1∨(s=⟨v,r,no⟩∧r≠[]):=by
 unfold rest at h
 split at h
 ·exact .inl h
 ·rename_i hr
  rcases List.mem_append.1 h with h | h
  ·exact .inl h
  ·exact .inr ⟨List.mem_singleton.1 h,fun e=>hr (by rw [e];rfl)⟩
theorem mem_rest {hs1:List Src} {v:Value} {r:List Ent} {no:Nat} {s:Src} (h:s∈hs1):s∈rest hs1 v r no:=by
 unfold rest
 split
 ·exact h
 ·exact List.mem_append_left _ h
theorem new_rest {hs1:List Src} {v:Value} {r:List Ent} {no:Nat} (h:r≠[]):(⟨v,r,no⟩:Src)∈rest hs1 v r no:=by
 unfold rest
 split
 ·rename_i e;exact absurd (List.eq_nil_of_length_eq_zero e) h
 ·simp
theorem last_mem {out:List Ent} (h:0 < out.length):nth out (out.length - 1)∈out:=by rw [nth_eq (by omega)];exact List.getElem_mem _
theorem sr_last {out:List Ent} (h:Sr out) {o:Ent} (ho:o∈out):o=nth out (out.length - 1)∨ahd o (nth out (out.length - 1))=true:=by
 obtain ⟨i,hi,rfl⟩:=List.getElem_of_mem ho
 by_cases he:i=out.length - 1
 ·left;subst he;rw [nth_eq (by omega)]
 ·right
  rw [nth_eq (show out.length - 1 < out.length by omega)]
  exact List.pairwise_iff_getElem.1 h i (out.length - 1) hi (by omega) (by omega)
theorem told_take {ls:List (List Ent)} {hs hs1 hs2:List Src} {P:List (Ent×Nat)} {out:List Ent} {s0:Src} {v:Value} {x:Ent} {r:List Ent} (h:Told ls hs P out) (hp:hs.Perm (s0::hs1)) (hx:s0.es=x::r)
 (hmin:∀ s∈hs,lessS s s0=false) (hp2:hs2.Perm (rest hs1 v r s0.no)):Told ls hs2 ((x,s0.no)::P) (nxt out x):=by
 have h0:s0∈hs:=hp.mem_iff.2 List.mem_cons_self
 have h1:∀ s,s∈hs1→s∈hs:=fun s hs=>hp.mem_iff.2 (List.mem_cons_of_mem _ hs)
 have hm2:∀ s,s∈hs2→s∈hs1∨(s=⟨v,r,s0.no⟩∧r≠[]):=fun s hs=>rest_mem (hp2.mem_iff.1 hs)
 have hn:(s0.no::hs1.map Src.no).Nodup:=(hp.map Src.no).nodup_iff.1 h.apart
 have hn':=List.nodup_cons.1 hn
 obtain ⟨_,hsr0,l0,hl0,hml0⟩:=h.left s0 h0
 rw [hx] at hsr0 hml0
 have hsr:=List.pairwise_cons.1 hsr0
 have hxh:s0.hd=x:=by unfold Src.hd;rw [hx,nth_zero]
 have hP:∀ p∈P,ltT p.1 p.2 x s0.no=true:=fun p hp=>h.ahead p hp s0 h0 x (by rw [hx];exact List.mem_cons_self)
 have hO:∀ o∈out,ahd o x=true∨sameKS o x=true:=fun o ho=>by
  obtain ⟨j,hj,_⟩:=h.first o ho
  have:=(ltT_iff _ _ _ _).1 (hP _ hj)
  rcases this with e | e
  ·exact .inl e
  ·exact .inr e.1
 have base:∀ out',Sr out'→(∀ o∈out',∃ j,(o,j)∈(x,s0.no)::P∧∀ p∈(x,s0.no)::P,sameKS p.1 o=true→j≤p.2)→(∀ p∈(x,s0.no)::P,∃ o∈out',sameKS o p.1=true)→Told ls hs2 ((x,s0.no)::P) out':=by
  intro out' g1 g2 g3
  refine ⟨fun s hs=>?_,?_,fun p hp'=>?_,fun i l e hl he=>?_,fun p hp' s hs e he=>?_,g1,g2,g3⟩
  ·rcases hm2 s hs with hs | ⟨rfl,hr⟩
   ·exact h.left s (h1 s hs)
   ·exact ⟨hr,hsr.2,l0,hl0,fun e he=>hml0 e (List.mem_cons_of_mem _ he)⟩
  ·rw [(hp2.map Src.no).nodup_iff]
   unfold rest
   split
   ·exact hn'.2
   ·rw [List.map_append,List.nodup_append]
    refine ⟨hn'.2,by simp,fun a ha b hb=>?_⟩
    simp at hb
    subst hb
    intro e
    subst e
    exact hn'.1 ha
  ·rcases List.mem_cons.1 hp' with rfl | hp'
   ·exact ⟨l0,hl0,hml0 x List.mem_cons_self⟩
   ·exact h.part p hp'
  ·rcases h.all i l e hl he with hp' | ⟨s,hs,hno,hes⟩
   ·exact .inl (List.mem_cons_of_mem _ hp')
   ·rcases List.mem_cons.1 (hp.mem_iff.1 hs) with rfl | hs
    ·rw [hx] at hes
     rcases List.mem_cons.1 hes with rfl | her
     ·rw [← hno];exact .inl List.mem_cons_self
     ·have hr:r≠[]:=fun e=>by rw [e] at her;cases her
      exact .inr ⟨_,hp2.mem_iff.2 (new_rest hr),hno,her⟩
    ·exact .inr ⟨s,hp2.mem_iff.2 (mem_rest hs),hno,hes⟩
  ·rcases List.mem_cons.1 hp' with rfl | hp'
   ·rcases hm2 s hs with hs | ⟨rfl,hr⟩
    ·have hne:s.no≠s0.no:=fun e=>hn'.1 (by rw [← e];exact List.mem_map_of_mem hs)
     have hlt:ltT x s0.no s.hd s.no=true:=by
      rcases ltT_tri x s0.no s.hd s.no with k | k | k
      ·exact k
      ·have:=hmin s (h1 s hs)
       unfold lessS at this
       rw [hxh,k] at this;cases this
      ·exact absurd k.2.symm hne
     obtain ⟨hne',hss,_⟩:=h.left s (h1 s hs)
     cases hse:s.es with
     | nil=>exact absurd hse hne'
     | cons y t =>
      have hyh:s.hd=y:=by unfold Src.hd;rw [hse,nth_zero]
      rw [hse] at he hss
      rw [hyh] at hlt
      rcases List.mem_cons.1 he with rfl | he
      ·exact hlt
      ·have:=(List.pairwise_cons.1 hss).1 e he
       exact ltT_trans hlt ((ltT_iff _ _ _ _).2 (.inl this))
    ·exact (ltT_iff _ _ _ _).2 (.inl (hsr.1 e he))
   ·rcases hm2 s hs with hs | ⟨rfl,hr⟩
    ·exact h.ahead p hp' s (h1 s hs) e he
    ·exact h.ahead p hp' s0 h0 e (by rw [hx];exact List.mem_cons_of_mem _ he)
 unfold nxt
 split
 ·rename_i hc
  have hno:∀ o∈out,sameKS o x=false:=fun o ho=>by
   cases hk:sameKS o x with
   | false=>rfl
   | true =>
    exfalso
    have hlen:0 < out.length:=List.length_pos_of_mem ho
    rcases hc with hc | hc
    ·omega
    ·rcases sr_last h.sorted ho with e | e
     ·rw [← e,hk] at hc;cases hc
     ·rcases hO _ (last_mem hlen) with k | k
      ·exact ahd_same (ahd_trans e k) hk
      ·rw [k] at hc;cases hc
  refine base _ ?_ (fun o ho=>?_) (fun p hp'=>?_)
  ·unfold Sr
   rw [List.pairwise_append]
   refine ⟨h.sorted,by simp,fun a ha b hb=>?_⟩
   rw [List.mem_singleton.1 hb]
   rcases hO a ha with k | k
   ·exact k
   ·rw [hno a ha] at k;cases k
  ·rcases List.mem_append.1 ho with ho | ho
   ·obtain ⟨j,hj,hf⟩:=h.first o ho
    refine ⟨j,List.mem_cons_of_mem _ hj,fun p hp' hk=>?_⟩
    rcases List.mem_cons.1 hp' with rfl | hp'
    ·have:=hno o ho
     rw [sameKS_symm hk] at this;cases this
    ·exact hf p hp' hk
   ·rw [List.mem_singleton.1 ho]
    refine ⟨s0.no,List.mem_cons_self,fun p hp' hk=>?_⟩
    rcases List.mem_cons.1 hp' with rfl | hp'
    ·exact Nat.le_refl _
    ·obtain ⟨o',ho',hk'⟩:=h.has p hp'
     have:=hno o' ho'
     rw [sameKS_trans hk' hk] at this;cases this
  ·rcases List.mem_cons.1 hp' with rfl | hp'
   ·exact ⟨x,by simp,sameKS_refl x⟩
   ·obtain ⟨o',ho',hk'⟩:=h.has p hp'
    exact ⟨o',List.mem_append_left _ ho',hk'⟩
 ·rename_i hc
  have hlen:0 < out.length:=Nat.pos_of_ne_zero (fun e=>hc (.inl e))
  have hk:sameKS (nth out (out.length - 1)) x=true:=by
   cases e:sameKS (nth out (out.length - 1)) x with
   | true=>rfl
   | false=>exact absurd (.inr e) hc
  refine base _ h.sorted (fun o ho=>?_) (fun p hp'=>?_)
  ·obtain ⟨j,hj,hf⟩:=h.first o ho
   refine ⟨j,List.mem_cons_of_mem _ hj,fun p hp' hk2=>?_⟩
   rcases List.mem_cons.1 hp' with rfl | hp'
   ·have:=(ltT_iff _ _ _ _).1 (hP _ hj)
    rcases this with e | e
    ·exact (ahd_same e (sameKS_symm hk2)).elim
    ·simp only at e ⊢;omega
   ·exact hf p hp' hk2
  ·rcases List.mem_cons.1 hp' with rfl | hp'
   ·exact ⟨_,last_mem hlen,hk⟩
   ·exact h.has p hp'
structure Start (ls:List (List Ent)) (k:Nat) (hs:List Src):Prop where
 left:∀ s∈hs,s.no < k∧ls[s.no]? = some s.es∧s.es≠[]
 apart:(hs.map Src.no).Nodup
 all:∀ (i:Nat) (l:List Ent),i < k→ls[i]? = some l→l≠[]→∃ s∈hs,s.no=i
theorem start_nil (ls:List (List Ent)):Start ls 0 []:=⟨(fun s hs=>by cases hs),List.nodup_nil,(fun i l hi=>by omega)⟩
theorem start_step {ls:List (List Ent)} {k:Nat} {hs hs2:List Src} {v:Value} {l:List Ent} (h:Start ls k hs) (hl:ls[k]? = some l) (hp:hs2.Perm (rest hs v l k)):Start ls (k+1) hs2:=by
 have hm:∀ s,s∈hs2→s∈hs∨(s=⟨v,l,k⟩∧l≠[]):=fun s hs=>rest_mem (hp.mem_iff.1 hs)
 refine ⟨fun s hs=>?_,?_,fun i m hi hm' hne=>?_⟩
 ·rcases hm s hs with hs | ⟨rfl,hr⟩
  ·have:=h.left s hs;exact ⟨by omega,this.2⟩
  ·exact ⟨by simp,hl,hr⟩
 ·rw [(hp.map Src.no).nodup_iff]
  unfold rest
  split
  ·exact h.apart
  ·rw [List.map_append,List.nodup_append]
   refine ⟨h.apart,by simp,fun a ha b hb=>?_⟩
   simp at hb
   subst hb
   obtain ⟨s,hs,rfl⟩:=List.mem_map.1 ha
   have:=(h.left s hs).1
   omega
 ·by_cases hik:i=k
  ·subst hik
   rw [hl] at hm'
   obtain rfl:=Option.some.inj hm'
   exact ⟨_,hp.mem_iff.2 (new_rest hne),rfl⟩
  ·obtain ⟨s,hs,hno⟩:=h.all i m (by omega) hm' hne
   exact ⟨s,hp.mem_iff.2 (mem_rest hs),hno⟩
theorem start_told {ls:List (List Ent)} {hs:List Src} (hsr:∀ l∈ls,Sr l) (h:Start ls ls.length hs):Told ls hs [] []:=by
 refine ⟨fun s hs=>?_,h.apart,(fun p hp=>by cases hp),fun i l e hl he=>?_,(fun p hp=>by cases hp),List.Pairwise.nil,(fun o ho=>by cases ho),(fun p hp=>by cases hp)⟩
 ·obtain ⟨_,h1,h2⟩:=h.left s hs
  exact ⟨h2,hsr _ (List.mem_of_getElem? h1),s.es,h1,fun e he=>he⟩
 ·right
  have hil:i < ls.length:=(List.getElem?_eq_some_iff.1 hl).1
  obtain ⟨s,hs,hno⟩:=h.all i l hil hl (fun e'=>by rw [e'] at he;cases he)
  obtain ⟨_,h1,_⟩:=h.left s hs
  rw [hno,hl] at h1
  obtain rfl:=Option.some.inj h1
  exact ⟨s,hs,hno,he⟩
open Go.RowKit
theorem run_wrapNil (P:Program) (w:World) (t:TypeId) (a:Addr) (n:String):(Builtin.ssaWrapNilChk_ #[t] t #[.pointer (some a),strVal "",strVal n]).run P w=.ok (.pointer (some a)) w:=rfl
theorem run_method_val {P:Program} {w:World} {t elem se:TypeId} {K b f:Nat} {v:Value} {name:String} (hm:((P.info? t).bind fun i=>i.methods.find? (·.name == name)).map (fun m=>(m.path,m.func))=some (#[],some (K,false)))
 (hu:P.underlying t=some (.pointer elem)) (he:P.underlying elem=some (.slice se)) (h:w.cell? ⟨b,0,none⟩=some v):(method (f+1) t (.pointer (some ⟨b,0,none⟩)) name).run P w=.ok (K,v) w:=by
 obtain ⟨i,hi⟩:∃ i,P.info? t=some i:=by
  cases h:P.info? t with
  | none=>rw [h] at hm;simp at hm
  | some i=>exact ⟨i,rfl⟩
 rw [hi] at hm
 obtain ⟨m,hm1⟩:∃ m,i.methods.find? (·.name == name)=some m:=by
  cases h:i.methods.find? (·.name == name) with
  | none=>simp only [Option.bind_some,h] at hm;simp at hm
  | some m=>exact ⟨m,rfl⟩
 simp only [Option.bind_some,hm1,Option.map_some,Option.some.injEq,Prod.mk.injEq] at hm
 have h2:=run_wrapNil P w t ⟨b,0,none⟩
 simp [method,typeInfo,hi,hm1,hm.1,hm.2,follow,receiverAt,underlying,hu,he,Place.get,h2,asAddr,loadVar,isAgg,h,Result.andThen]
theorem m_Len (w:World) (b:Nat) (v:Value) (h:w.cell? ⟨b,0,none⟩=some v):(method 322 146 (.pointer (some ⟨b,0,none⟩)) "Len").run Tryz.prog w=.ok (124,v) w :=
 run_method_val (by kernel_rfl) Tryz.underlying146 Tryz.underlying148 h
theorem m_Less (w:World) (b:Nat) (v:Value) (h:w.cell? ⟨b,0,none⟩=some v):(method 322 146 (.pointer (some ⟨b,0,none⟩)) "Less").run Tryz.prog w=.ok (184,v) w :=
 run_method_val (by kernel_rfl) Tryz.underlying146 Tryz.underlying148 h
theorem m_Swap (w:World) (b:Nat) (v:Value) (h:w.cell? ⟨b,0,none⟩=some v):(method 322 146 (.pointer (some ⟨b,0,none⟩)) "Swap").run Tryz.prog w=.ok (187,v) w :=
 run_method_val (by kernel_rfl) Tryz.underlying146 Tryz.underlying148 h
theorem m_Push (w:World) (b:Nat):(method 322 146 (.pointer (some ⟨b,0,none⟩)) "Push").run Tryz.prog w=.ok (186,.pointer (some ⟨b,0,none⟩)) w:=by kernel_rfl
theorem m_Pop (w:World) (b:Nat):(method 322 146 (.pointer (some ⟨b,0,none⟩)) "Pop").run Tryz.prog w=.ok (185,.pointer (some ⟨b,0,none⟩)) w:=by kernel_rfl
theorem Tryz.info167:(Tryz.prog.info? 167).map (fun i=>(i.zero,i.size,i.bytes))=some (some (.agg #[.slice none 0 0,.int .i64 0]),2,32):=by kernel_rfl
def HCs (s:Src):List Value:=[s.v,.int .i64 s.no]
def HV (hs:List Src):List Value:=hs.flatMap HCs
theorem HV_length:∀ hs:List Src,(HV hs).length=hs.length*2
 | []=>rfl
 | a::r=>by
  have:=HV_length r
  unfold HV at this ⊢
  rw [List.flatMap_cons,List.length_append,this,List.length_cons]
  simp [HCs];omega
theorem HV_append (a b:List Src):HV (a++b)=HV a++HV b:=by simp [HV]
theorem HV_one (s:Src):HV [s]=HCs s:=by simp [HV]
theorem HV_cons (a:Src) (r:List Src):HV (a::r)=HCs a++HV r:=by simp [HV]
theorem sN_zero (a:Src) (r:List Src):sN (a::r) 0=a:=rfl
theorem sN_succ (a:Src) (r:List Src) (i:Nat):sN (a::r) (i+1)=sN r i:=rfl
theorem HV_get:∀ (hs:List Src) (i:Nat),i < hs.length→∀ j,j < 2→(HV hs)[i*2+j]? = (HCs (sN hs i))[j]?
 | [],i,h,_,_=>by simp at h
 | a::r,0,_,j,hj=>by
  rw [HV_cons,sN_zero,Nat.zero_mul,Nat.zero_add,List.getElem?_append_left (by simp [HCs];exact hj)]
 | a::r,i+1,h,j,hj=>by
  rw [HV_cons,sN_succ,← HV_get r i (by simpa using h) j hj,List.getElem?_append_right (by simp [HCs];omega)]
  congr 1
  simp [HCs];omega
theorem HV_set:∀ (hs:List Src) (i:Nat) (s:Src),i < hs.length→HV (hs.set i s)=((HV hs).set (i*2) s.v).set (i*2+1) (.int .i64 s.no)
 | [],i,s,h=>by simp at h
 | a::r,0,s,_=>by
  rw [List.set_cons_zero,HV_cons,HV_cons]
  simp [HCs]
 | a::r,i+1,s,h=>by
  rw [List.set_cons_succ,HV_cons,HV_cons,HV_set r i s (by simpa using h)]
  have e1:(i+1)*2=i*2+2:=by omega
  rw [e1]
  simp [HCs]
def SrcAt (w:World) (b o:Nat) (s:Src):Prop:=w.cell? ⟨b,o,none⟩=some s.v∧w.cell? ⟨b,o+1,none⟩=some (.int .i64 s.no)
theorem SrcAt.lt {w:World} {b o:Nat} {s:Src} (h:SrcAt w b o s):b < w.heap.size:=World.block_lt_of_cell? w _ h.1
theorem SrcAt.of_block {w w':World} {b o:Nat} {s:Src} (h:SrcAt w b o s) (hb:w'.heap[b]? = w.heap[b]?):SrcAt w' b o s :=
 ⟨(World.cell?_of_block (a:=⟨b,o,none⟩) hb).trans h.1,(World.cell?_of_block (a:=⟨b,o+1,none⟩) hb).trans h.2⟩
theorem SrcAt.below {w w':World} {b o:Nat} {s:Src} (h:SrcAt w b o s) (hb:Below w.heap.size w w'):SrcAt w' b o s:=h.of_block (hb.block b h.lt)
def OwnH (w:World) (base:Nat) (v:Value) (hs:List Src):Prop:=w.ownsRow base 167 2 v hs.length (HV hs)
theorem ownH_at {w:World} {base g cap n:Nat} {hs:List Src} (h:OwnH w base (.slice (some ⟨g,0,none⟩) n cap) hs) (i:Nat) (hi:i < hs.length):SrcAt w g (i*2) (sN hs i):=by
 have hn:n=hs.length:=by
  rcases h.2 with ⟨h0,_⟩ | ⟨g',cap',cur,hv,_⟩
  ·cases h0
  ·simp only [Value.slice.injEq] at hv;exact hv.2.1
 subst hn
 have c:∀ j,j < 2→w.cell? ⟨g,i*2+j,none⟩=(HCs (sN hs i))[j]?:=fun j hj=>(World.ownsRow.cellAt h (i*2+j) (by omega)).trans (HV_get hs i hi j hj)
 exact ⟨c 0 (by omega),c 1 (by omega)⟩
theorem ownH_shape {w:World} {base:Nat} {v:Value} {hs:List Src} (h:OwnH w base v hs) (h0:0 < hs.length):∃ g cap,v=.slice (some ⟨g,0,none⟩) hs.length cap∧hs.length≤cap∧cap≤maxLen:=by
 rcases h.2 with ⟨_,h1⟩ | ⟨g,cap,cur,hv,_,_,h2,h3,_⟩
 ·omega
 ·exact ⟨g,cap,hv,h2,h3⟩
theorem ownH_len {w:World} {base:Nat} {v:Value} {hs:List Src} (h:OwnH w base v hs):∃ a cap,v=.slice a hs.length cap∧hs.length≤cap∧cap≤maxLen:=by
 rcases h.2 with ⟨hv,h1⟩ | ⟨g,cap,cur,hv,_,_,h2,h3,_⟩
 ·exact ⟨none,0,by rw [hv,h1],by omega,Nat.zero_le _⟩
 ·exact ⟨_,cap,hv,h2,h3⟩
theorem OwnH.below {w w':World} {base:Nat} {v:Value} {hs:List Src} (h:OwnH w base v hs) (hb:Below w.heap.size w w'):OwnH w' base v hs:=own_below h hb
structure Hp (w0 w:World) (sb:Nat) (v:Value) (hs:List Src):Prop where
 bel:Below w0.heap.size w0 w
 ge:w0.heap.size≤sb
 box:w.heap[sb]? = some (.cells #[v] 148 (0,0))
 own:OwnH w w0.heap.size v hs
 ne:∀ k,v.ownBlock=some k→k≠sb
 rd:∀ s∈hs,RdE w0 s.v s.es∧s.es≠[]
 few:hs.length≤20
theorem Hp.cell {w0 w:World} {sb:Nat} {v:Value} {hs:List Src} (h:Hp w0 w sb v hs):w.cell? ⟨sb,0,none⟩=some v:=by simp [World.cell?,h.box]
theorem Hp.lt {w0 w:World} {sb:Nat} {v:Value} {hs:List Src} (h:Hp w0 w sb v hs):sb < w.heap.size:=World.block_lt_of_cell? w _ h.cell
theorem Hp.below {w0 w w':World} {sb:Nat} {v:Value} {hs:List Src} (h:Hp w0 w sb v hs) (hb:Below w.heap.size w w'):Hp w0 w' sb v hs :=
 ⟨h.bel.trans (hb.mono h.bel.size),h.ge,(hb.block sb h.lt).trans h.box,h.own.below hb,h.ne,h.rd,h.few⟩
structure Hop (w:World) (v:Value) (sb:Nat) (w':World) (v':Value):Prop where
 size:w.heap.size≤w'.heap.size
 block:∀ k,k < w.heap.size→k≠sb→v.ownBlock≠some k→w'.heap[k]? = w.heap[k]?
 row:∀ k,v'.ownBlock=some k→v.ownBlock=some k∨w.heap.size≤k
theorem Hop.refl (w:World) (v:Value) (sb:Nat):Hop w v sb w v:=⟨Nat.le_refl _,fun _ _ _ _=>rfl,fun _ h=>.inl h⟩
theorem Hop.trans {w w1 w2:World} {v v1 v2:Value} {sb:Nat} (h:Hop w v sb w1 v1) (k:Hop w1 v1 sb w2 v2):Hop w v sb w2 v2 :=
 ⟨Nat.le_trans h.size k.size,fun i hi hs hv=>(k.block i (Nat.lt_of_lt_of_le hi h.size) hs (fun e=>by
  rcases h.row i e with e | e
  ·exact hv e
  ·omega)).trans (h.block i hi hs hv),
  fun i hi=>by
   rcases k.row i hi with e | e
   ·exact h.row i e
   ·exact .inr (Nat.le_trans h.size e)⟩
theorem Hop.below {w w':World} {v:Value} {sb:Nat} (h:Below w.heap.size w w'):Hop w v sb w' v:=⟨h.size,fun k hk _ _=>h.block k hk,fun _ h=>.inl h⟩
theorem ltT_ord (x y:Ent) (i j:Nat):(if ordE x y≠0 then ordE x y else cmpI i j) < 0↔ltT x i y j=true:=by
 rw [ltT_iff]
 by_cases h:ordE x y=0
 ·rw [if_neg (by simpa using h),(ordE_zero x y).1 h]
  have h2:¬ ahd x y=true:=fun e=>by have:=(ordE_neg x y).2 e;omega
  simp only [h2,true_and]
  unfold cmpI
  split
  ·simp;omega
  ·split
   ·simp;omega
   ·simp;omega
 ·rw [if_pos h,ordE_neg]
  have h2:¬ sameKS x y=true:=fun e=>h ((ordE_zero x y).2 e)
  simp [h2]
end Go.Proofs.YtmlmlemiidedcaaGreat
