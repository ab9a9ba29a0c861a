import Derived.Test.YtjlnchhgkfnldaaGreatG02
namespace Go.Proofs.YtjlnchhgkfnldaaGreat
set_option maxHeartbeats 16000000
set_option maxRecDepth 100000
open Go.RowKit
def Small(x:Ent):Prop:=x.key.size≤1000∧x.val.size≤1000∧0≤x.seq∧x.seq≤1000000000
theorem Small.fits{x:Ent}(h:Small x):Fits x:=⟨by have:=h.1;omega,by have:=h.2.1;omega,by have:=h.2.2.1;omega,by have:=h.2.2.2;omega⟩
theorem DCur.below{w0 w w':World}{g:Nat}(h:DCur w0 w g)(hb:Below w.heap.size w w'):DCur w0 w' g:=by
 have hl:=h.lt;obtain⟨v,bs,i,x,h1,h2,h3,h4,h5,h6⟩:=h;exact⟨v,bs,i,x,h1,h2,h3,by rw[hb.block g hl];exact h4,h5.trans (hb.mono (by omega)),h6⟩
theorem zbg{a w w':World}{row:Option Nat}(h:a.grownBy w row)(hb:Below w.heap.size w w'):a.grownBy w' row:=by
 have:=h.size;exact⟨hb.os.trans h.os,hb.tape.trans h.tape,hb.output.trans h.output,nT h.size hb.size,fun k hk hr=>(hb.block k (by omega)).trans (h.block k hk hr)⟩
theorem BoxAt.block{w w':World}{b:Nat}{x:Ent}(h:BoxAt w b x)(hb:w'.heap[b]? = w.heap[b]?):BoxAt w' b x :=
 ⟨h.1.of_block hb,fun o=>(World.frozen?_of_block (a:=⟨b,o,none⟩) hb).trans (h.2 o)⟩
theorem zca(w0 w:World)(g:Nat)(h:DCur w0 w g) :
 Calls Tryz.prog 45 #[.pointer (some ⟨g,0,none⟩)] w fun e w'=>TextD w0 w g 3 e w':=by
 have hlt:=h.lt;have hdc:=h.alloc (.cells #[.string ⟨#[97]⟩,.string ⟨#[97,98]⟩,.string ⟨#[97,98,99]⟩,.string ⟨#[98]⟩,.string ⟨#[98,97]⟩,.string ⟨#[122]⟩] 9);go_enter Tryz.func45,Tryz.ntmps45
 go_wp2_with fail
 refine(zB w0 _ g 6 hdc (by omega) (by omega)).mono ?_;rintro e w1 ⟨x,rfl,hx0,hx1,hc,hg⟩;have hcl:∀ o,w1.cell? ⟨w.heap.size,o,none⟩=(w.alloc (.cells #[.string ⟨#[97]⟩,.string ⟨#[97,98]⟩,.string ⟨#[97,98,99]⟩,.string ⟨#[98]⟩,.string ⟨#[98,97]⟩,.string ⟨#[122]⟩] 9)).cell? ⟨w.heap.size,o,none⟩:=fun o=>World.cell?_of_block (a:=⟨w.heap.size,o,none⟩) (hg.block _ (by simp) (by simp;omega))
 have k0:w1.cell? ⟨w.heap.size,0,none⟩=some (.string ⟨#[97]⟩):=by rw[hcl];simp
 have k1:w1.cell? ⟨w.heap.size,1,none⟩=some (.string ⟨#[97,98]⟩):=by rw[hcl];simp
 have k2:w1.cell? ⟨w.heap.size,2,none⟩=some (.string ⟨#[97,98,99]⟩):=by rw[hcl];simp
 have k3:w1.cell? ⟨w.heap.size,3,none⟩=some (.string ⟨#[98]⟩):=by rw[hcl];simp
 have k4:w1.cell? ⟨w.heap.size,4,none⟩=some (.string ⟨#[98,97]⟩):=by rw[hcl];simp
 have k5:w1.cell? ⟨w.heap.size,5,none⟩=some (.string ⟨#[122]⟩):=by rw[hcl];simp
 have hgr:w.grownBy w1 (some g):=zq (zav (zaY w (some g)) _) hg;have hx:x=0∨x=1∨x=2∨x=3∨x=4∨x=5:=by omega
 clear hcl hg hdc;rcases hx with rfl | rfl | rfl | rfl | rfl | rfl
 all_goals
  go_wp2;go_ret;exact⟨_,rfl,by decide,hc,hgr⟩
def EntD(w0 w:World)(g:Nat)(q:Int)(e:Ending)(w':World):Prop :=
 ∃ x:Ent,e=.returned (.agg #[.string x.key,.string x.val,.int .i64 x.seq,.bool x.gone])∧x.key.size≤1000∧x.val.size≤1000∧x.seq=q∧DCur w0 w' g∧w.grownBy w' (some g)
theorem DCur.set{w0 w:World}{g b j:Nat}{u:Value}(h:DCur w0 w g)(hb:g<b):DCur w0 (w.setCell ⟨b,j,none⟩ u) g :=
 h.grow (zcV u) (fun k hk=>by cases hk;exact hb)
theorem zaX{a w:World}{row:Option Nat}{b j:Nat}{u:Value}(h:a.grownBy w row)(hb:a.heap.size≤b):a.grownBy (w.setCell ⟨b,j,none⟩ u) row :=
 zaN h (zcV u) (fun k hk=>by cases hk;exact hb)
theorem zco(w0 w:World)(g:Nat)(q:Int)(h:DCur w0 w g) :
 Calls Tryz.prog 94 #[.pointer (some ⟨g,0,none⟩),.int .i64 q] w fun e w'=>EntD w0 w g q e w':=by
 have hlt:=h.lt;have hdc:=h.alloc (.cells #[.string ⟨#[]⟩,.string ⟨#[]⟩,.int .i64 0,.bool false] 40);have hz:=zd4 w 40;have hgr:=zav (zaY w (some g)) (.cells #[.string ⟨#[]⟩,.string ⟨#[]⟩,.int .i64 0,.bool false] 40);go_enter Tryz.func94,Tryz.ntmps94
 go_wp2_with fail
 refine(zca w0 _ g hdc).mono ?_;rintro e w1 ⟨ks,rfl,hks,hc1,hg1⟩;have hz1:=hz.block (hg1.block _ (by simp) (by simp;omega));have hgr1:=zq hgr hg1;clear hdc hz hg1 hgr;go_wp2_with fail
 refine(zg7 w0 _ g hc1).mono ?_;rintro e w2 ⟨vs,rfl,hvs,hc2,hg2⟩;have hz2:=hz1.block (hg2.block _ hz1.1.lt (by simp;omega));have hgr2:=zq hgr1 hg2;clear hc1 hz1 hg2 hgr1;go_wp2_with fail
 refine(za6 w0 _ g 4 hc2 (by omega) (by omega)).mono ?_;rintro e w3 ⟨b,rfl,hc3,hg3⟩;have hz3:=hz2.block (hg3.block _ hz2.1.lt (by simp;omega));have hgr3:=zq hgr2 hg3;clear hc2 hz2 hg3 hgr2;have hl3:=hz3.1.lt;obtain⟨z0,z1,z2,z3,f0,f1,f2,f3⟩:=hz3.facts;cases b with
 | false =>
  go_wp2;refine bodyPost_ret (v:=.agg #[.string ks,.string vs,.int .i64 q,.bool false]) (by simp[results,Tryz.results94,go_sem,z0,z1,z2,z3,hl3]) rfl ⟨⟨ks,vs,q,false⟩,rfl,by show ks.size≤1000;omega,by show vs.size≤1000;omega,rfl,?_,?_⟩
  ·exact((((hc3.set hlt).set hlt).set hlt).set hlt).alloc _
  ·exact zav (zaX (zaX (zaX (zaX hgr3 (nR _)) (nR _)) (nR _)) (nR _)) _
 | true =>
  go_wp2;refine bodyPost_ret (v:=.agg #[.string ks,.string ⟨#[]⟩,.int .i64 q,.bool true]) (by simp[results,Tryz.results94,go_sem,z0,z1,z2,z3,hl3]) rfl ⟨⟨ks,⟨#[]⟩,q,true⟩,rfl,by show ks.size≤1000;omega,by show (0:Nat)≤1000;omega,rfl,?_,?_⟩
  ·exact((((hc3.set hlt).set hlt).set hlt).set hlt).alloc _
  ·exact zav (zaX (zaX (zaX (zaX hgr3 (nR _)) (nR _)) (nR _)) (nR _)) _
def ListD(w0 w:World)(g n:Nat)(e:Ending)(w':World):Prop :=
 ∃ (v:Value) (es:List Ent),e=.returned v∧OwnE w' w.heap.size v es∧es.length≤n∧(∀ x∈es,Small x)∧DCur w0 w' g∧w.grownBy w' (some g)
theorem zmn{es:List Ent}{x:Ent}(h:∀ y∈es,Small y)(hx:Small x):∀ y∈insE es x,Small y:=by
 intro y hy;simp only[insE,List.mem_append,List.mem_cons] at hy;rcases hy with hy | rfl | hy
 ·exact h y (List.mem_of_mem_take hy)
 ·exact hx
 ·exact h y (List.mem_of_mem_drop hy)
theorem zaa{w w':World}{B g:Nat}{v:Value}{es:List Ent}(h:OwnE w B v es)(hg:w.grownBy w' (some g))(hB:g<B):OwnE w' B v es :=
 zl h hg (fun k hk e=>by have:=(oL h k hk).1;simp at e;omega)
theorem zeb(w0 w:World)(g:Nat)(q0:Int)(n0:Nat)(h:DCur w0 w g)(hq00:1≤q0)(hq01:q0≤1000000)(hn00:n0≤200) :
 Calls Tryz.prog 119 #[.pointer (some ⟨g,0,none⟩),.int .i64 q0,.int .i64 (n0:Int)] w fun e w'=>ListD w0 w g n0 e w':=by
 have hlt:=h.lt;have hdc:=h.alloc (.cells #[] 40);have hst:=zX w;have hgr:=zav (zaY w (some g)) (.cells #[] 40);go_enter Tryz.func119,Tryz.ntmps119
 go_wp2_with fail
 refine(zB w0 _ g ((n0:Int)+1) hdc (by omega) (by omega)).mono ?_;rintro e w1 ⟨x,rfl,hx0,hx1,hc1,hg1⟩;have ho1:=zaa hst hg1 hlt;have hgr1:=zq hgr hg1;clear hdc hst hgr hg1;go_wp2;go_loopw [1,7,8] (fun sq o n wr=>∃ (m q:Int) (ys:List Ent),n=.int .i64 m∧sq=.int .i64 q∧0≤m∧1≤q∧q+2*m≤q0+2*(n0:Int)∧(ys.length:Int)+m≤(n0:Int)∧OwnE wr w.heap.size o ys∧Hid (∀ y∈ys,Small y)∧DCur w0 wr g∧w.grownBy wr (some g)) (fun _ _ n _=>(intOf n).toNat)
 case atStart=>exact⟨x,q0,[],rfl,rfl,hx0,by omega,by omega,by simp;omega,ho1,(fun y hy=>by cases hy),hc1,hgr1⟩
 case round =>
  obtain⟨m,q,ys,rfl,rfl,hm0,hq0,hq1,hyl,ho,HS,hc,hgw⟩:=hrel;clear ho1 hc1 hgr1;by_cases hmp:0<m
  ·go_wp2_with fail
   refine(zco w0 _ g q hc).mono ?_;rintro e w2 ⟨z,rfl,hz0,hz1,hz2,hc2,hg2⟩;have ho2:=zaa ho hg2 hlt;have hgw2:=zq hgw hg2;have HS2:Hid (∀ y∈insE ys z,Small y):=zmn HS.out ⟨hz0,hz1,by omega,by omega⟩;have hil:=zc4 ys z;have hs2:=hgw2.size;have HZ:Hid (z.seq=q):=hz2;have hil2:((insE ys z).length:Int)+(m-1)≤(n0:Int):=(by omega);clear ho hc hgw hg2 hz2 hil;go_wp2_with fail
   refine(zj7 _ ys z _ ho2.rd (by omega)).mono ?_;rintro e w3 ⟨u,rfl,ho3,hb3⟩;have hc3:=hc2.below hb3;have hgw3:=zbg hgw2 hb3;have ho3':=ho3.mono hs2;clear ho2 hc2 hgw2 ho3 hb3;go_wp2_with fail
   refine(zB w0 _ g 2 hc3 (by omega) (by omega)).mono ?_;rintro e w4 ⟨y,rfl,hy0,hy1,hc4,hg4⟩;have ho4:=zaa ho3' hg4 hlt;have hgw4:=zq hgw3 hg4;clear ho3' hc3 hgw3 hg4;go_wp2;go_roundw
   case rel=>exact⟨m-1,q+1+y,_,rfl,rfl,by omega,by omega,by omega,hil2,ho4,HS2,hc4,hgw4⟩
   case measure=>simp[intOf];omega
  ·have hm1:m=0:=(by omega);subst hm1;go_wp2;go_ret;exact⟨_,ys,rfl,ho,by omega,HS.out,hc,hgw⟩
theorem zg4(w0 w:World)(g:Nat)(h:DCur w0 w g) :
 Calls Tryz.prog 119 #[.pointer (some ⟨g,0,none⟩),.int .i64 1,.int .i64 10] w fun e w'=>ListD w0 w g 10 e w':=zeb w0 w g 1 10 h (by omega) (by omega) (by omega)
def Sr(es:List Ent):Prop:=es.Pairwise (fun a b=>ahd a b=true)
theorem zaV{es:List Ent}(h:okL es=true):Sr es:=((zaD es).1 h).2.2
theorem zey{a b:Ent}(h:ahd a b=true):ahd b a=false:=by
 cases e:ahd b a with
 | false=>rfl
 | true=>have:=zaR h e;rw[zbl] at this;cases this
def mrg:List Ent→List Ent→List Ent
 | [],b=>b
 | x::r,[]=>x::r
 | x::r,y::s=>if ahd x y=true then x::mrg r (y::s) else if ahd y x=true then y::mrg (x::r) s else mrg (x::r) s
termination_by a b=>a.length+b.length
theorem zps(a:List Ent):mrg a []=a:=by cases a<;>rw[mrg]
theorem mrg_sub:∀ (n:Nat) (a b:List Ent),a.length+b.length≤n→∀ z,z∈mrg a b→z∈a∨z∈b:=by
 intro n;induction n with
 | zero =>
  intro a b h z hz;have:a=[]:=List.length_eq_zero_iff.1 (by omega);subst this;rw[mrg] at hz;exact .inr hz
 | succ n ih =>
  intro a b h z hz;cases a with
  | nil=>rw[mrg] at hz;exact .inr hz
  | cons x r =>
   cases b with
   | nil=>rw[mrg] at hz;exact .inl hz
   | cons y s =>
    simp only[List.length_cons] at h;rw[mrg] at hz;split at hz
    ·rcases List.mem_cons.1 hz with rfl | hz
     ·exact .inl List.mem_cons_self
     ·rcases ih r (y::s) (by simp only[List.length_cons];omega) z hz with h | h
      ·exact .inl (List.mem_cons_of_mem _ h)
      ·exact .inr h
    ·split at hz
     ·rcases List.mem_cons.1 hz with rfl | hz
      ·exact .inr List.mem_cons_self
      ·rcases ih (x::r) s (by simp only[List.length_cons];omega) z hz with h | h
       ·exact .inl h
       ·exact .inr (List.mem_cons_of_mem _ h)
     ·rcases ih (x::r) s (by simp only[List.length_cons];omega) z hz with h | h
      ·exact .inl h
      ·exact .inr (List.mem_cons_of_mem _ h)
theorem zgj{a b:List Ent}{z:Ent}(h:z∈mrg a b):z∈a∨z∈b:=mrg_sub _ a b (nR _) z h
theorem ziD:∀ (n:Nat) (a b:List Ent),a.length+b.length≤n→(mrg a b).length≤a.length+b.length:=by
 intro n;induction n with
 | zero =>
  intro a b h;have:a=[]:=List.length_eq_zero_iff.1 (by omega);subst this;rw[mrg];omega
 | succ n ih =>
  intro a b h;cases a with
  | nil=>rw[mrg];simp
  | cons x r =>
   cases b with
   | nil=>rw[mrg];simp
   | cons y s =>
    simp only[List.length_cons] at h;rw[mrg];split
    ·have:=ih r (y::s) (by simp only[List.length_cons];omega);simp only[List.length_cons] at this ⊢;omega
    ·split
     ·have:=ih (x::r) s (by simp only[List.length_cons];omega);simp only[List.length_cons] at this ⊢;omega
     ·have:=ih (x::r) s (by simp only[List.length_cons];omega);simp only[List.length_cons] at this ⊢;omega
theorem zgr(x y:Ent)(h1:¬ ahd x y=true)(h2:¬ ahd y x=true):zP x y=true:=by
 cases h:zP x y with
 | true=>rfl
 | false=>exact absurd (zkJ (by simpa using h1) h) h2
theorem za3(x y:Ent):zP x y=true↔x.key=y.key∧x.seq=y.seq:=by simp[zP,kEq]
theorem znV{x y z:Ent}(h:zP x y=true)(hz:ahd y z=true):ahd x z=true:=by
 rw[za3] at h;rw[za9] at hz ⊢;rw[h.1,h.2];exact hz
theorem zpb:∀ (n:Nat) (a b:List Ent),a.length+b.length≤n→Sr a→Sr b→Sr (mrg a b):=by
 intro n;induction n with
 | zero =>
  intro a b h _ hb;have:a=[]:=List.length_eq_zero_iff.1 (by omega);subst this;rw[mrg];exact hb
 | succ n ih =>
  intro a b h ha hb;cases a with
  | nil=>rw[mrg];exact hb
  | cons x r =>
   cases b with
   | nil=>rw[mrg];exact ha
   | cons y s =>
    simp only[List.length_cons] at h;have ha':=List.pairwise_cons.1 ha;have hb':=List.pairwise_cons.1 hb;rw[mrg];split
    ·rename_i hxy;refine List.pairwise_cons.2 ⟨fun z hz=>?_,ih r (y::s) (by simp only[List.length_cons];omega) ha'.2 hb⟩;rcases zgj hz with h | h
     ·exact ha'.1 z h
     ·rcases List.mem_cons.1 h with rfl | h
      ·exact hxy
      ·exact zaR hxy (hb'.1 z h)
    ·rename_i hxy;split
     ·rename_i hyx;refine List.pairwise_cons.2 ⟨fun z hz=>?_,ih (x::r) s (by simp only[List.length_cons];omega) ha hb'.2⟩;rcases zgj hz with h | h
      ·rcases List.mem_cons.1 h with rfl | h
       ·exact hyx
       ·exact zaR hyx (ha'.1 z h)
      ·exact hb'.1 z h
     ·exact ih (x::r) s (by simp only[List.length_cons];omega) ha hb'.2
theorem znF:∀ (n:Nat) (a b:List Ent),a.length+b.length≤n→∀ z,(z∈a→z∈mrg a b)∧(z∈b→∃ u∈mrg a b,zP u z=true):=by
 have same:∀ z:Ent,zP z z=true:=fun z=>by rw[za3];exact⟨rfl,rfl⟩
 intro n;induction n with
 | zero =>
  intro a b h z;have:a=[]:=List.length_eq_zero_iff.1 (by omega);subst this;rw[mrg];exact⟨(fun h=>by cases h),fun h=>⟨z,h,same z⟩⟩
 | succ n ih =>
  intro a b h z;cases a with
  | nil=>rw[mrg];exact⟨(fun h=>by cases h),fun h=>⟨z,h,same z⟩⟩
  | cons x r =>
   cases b with
   | nil=>rw[mrg];exact⟨(fun h=>h),(fun h=>by cases h)⟩
   | cons y s =>
    simp only[List.length_cons] at h;rw[mrg];split
    ·obtain⟨i1,i2⟩:=ih r (y::s) (by simp only[List.length_cons];omega) z;refine⟨fun hz=>?_,fun hz=>?_⟩
     ·rcases List.mem_cons.1 hz with rfl | hz
      ·exact List.mem_cons_self
      ·exact List.mem_cons_of_mem _ (i1 hz)
     ·obtain⟨u,hu,hs⟩:=i2 hz;exact⟨u,List.mem_cons_of_mem _ hu,hs⟩
    ·rename_i hxy;split
     ·obtain⟨i1,i2⟩:=ih (x::r) s (by simp only[List.length_cons];omega) z;refine⟨fun hz=>List.mem_cons_of_mem _ (i1 hz),fun hz=>?_⟩;rcases List.mem_cons.1 hz with rfl | hz
      ·exact⟨_,List.mem_cons_self,same _⟩
      ·obtain⟨u,hu,hs⟩:=i2 hz;exact⟨u,List.mem_cons_of_mem _ hu,hs⟩
     ·rename_i hyx;obtain⟨i1,i2⟩:=ih (x::r) s (by simp only[List.length_cons];omega) z;refine⟨i1,fun hz=>?_⟩;rcases List.mem_cons.1 hz with rfl | hz
      ·exact⟨x,((ih (x::r) s (by simp only[List.length_cons];omega) x).1 List.mem_cons_self),zgr x z hxy hyx⟩
      ·exact i2 hz
def zj(ls:List (List Ent)):List Ent:=ls.foldl mrg []
def zbd(ls:List (List Ent)):Bool:=decide (ls.length≤20)&&ls.all okL&&decide ((zj ls).length≤300)
def zat(ls:List (List Ent)):List Ent×Bool:=if zbd ls=true then (zj ls,true) else ([],false)
theorem mF_len(ls:List (List Ent)):∀ a:List Ent,(ls.foldl mrg a).length≤a.length+(ls.map List.length).sum:=by
 induction ls with
 | nil=>intro a;simp
 | cons l r ih =>
  intro a;rw[List.foldl_cons,List.map_cons,List.sum_cons];have h1:=ih (mrg a l);have h2:=ziD _ a l (nR _);omega
theorem mF_sr(ls:List (List Ent))(h:∀ l∈ls,Sr l):∀ a:List Ent,Sr a→Sr (ls.foldl mrg a):=by
 induction ls with
 | nil=>intro a ha;exact ha
 | cons l r ih =>
  intro a ha;rw[List.foldl_cons];exact ih (fun x hx=>h x (List.mem_cons_of_mem _ hx)) _ (zpb _ a l (nR _) ha (h l List.mem_cons_self))
theorem mF_mem(ls:List (List Ent)):∀ (a:List Ent) (z:Ent),z∈ls.foldl mrg a→z∈a∨∃ l∈ls,z∈l:=by
 induction ls with
 | nil=>intro a z hz;exact .inl hz
 | cons l r ih =>
  intro a z hz;rw[List.foldl_cons] at hz;rcases ih _ z hz with h | ⟨m,hm,h⟩
  ·rcases zgj h with h | h
   ·exact .inl h
   ·exact .inr ⟨l,List.mem_cons_self,h⟩
  ·exact .inr ⟨m,List.mem_cons_of_mem _ hm,h⟩
theorem zi3{ls:List (List Ent)}(h:zbd ls=true):okL (zj ls)=true:=by
 simp only[zbd,Bool.and_eq_true,decide_eq_true_eq,List.all_eq_true] at h;rw[zaD];refine⟨h.2,fun e he=>?_,mF_sr ls (fun l hl=>zaV (h.1.2 l hl)) [] List.Pairwise.nil⟩;rcases mF_mem ls [] e he with hh | ⟨l,hl,hh⟩
 ·cases hh
 ·exact((zaD l).1 (h.1.2 l hl)).2.1 e hh
theorem zma:∀ (a b:List Ent),Sr a→Sr b→(∀ x,x∈a↔x∈b)→a=b
 | [],b,_,_,h=>by
  cases b with
  | nil=>rfl
  | cons y s=>have:=(h y).2 List.mem_cons_self;cases this
 | x::r,[],_,_,h=>by have:=(h x).1 List.mem_cons_self;cases this
 | x::r,y::s,ha,hb,h=>by
  have ha':=List.pairwise_cons.1 ha;have hb':=List.pairwise_cons.1 hb;have hxy:x=y:=by
   rcases List.mem_cons.1 ((h x).1 List.mem_cons_self) with e | h1
   ·exact e
   ·rcases List.mem_cons.1 ((h y).2 List.mem_cons_self) with e | h2
    ·exact e.symm
    ·have p:=hb'.1 x h1;have q:=zey (ha'.1 y h2);rw[p] at q;cases q
  subst hxy;rw[zma r s ha'.2 hb'.2];intro z;have hz:=h z;rw[List.mem_cons,List.mem_cons] at hz;constructor
  ·intro hm;rcases hz.1 (.inr hm) with e | e
   ·have:=ha'.1 z hm;rw[e,zbl] at this;cases this
   ·exact e
  ·intro hm;rcases hz.2 (.inr hm) with e | e
   ·have:=hb'.1 z hm;rw[e,zbl] at this;cases this
   ·exact e
theorem zfr(p:Ent→Bool):∀ (es:List Ent),Sr es→∀ e,es.find? p=some e↔e∈es∧p e=true∧∀ x∈es,p x=true→x=e∨ahd e x=true
 | [],_,e=>by simp
 | a::r,hs,e=>by
  have hs':=List.pairwise_cons.1 hs;rw[List.find?_cons];cases hp:p a with
  | true =>
   constructor
   ·intro h;obtain rfl:=Option.some.inj h;refine⟨List.mem_cons_self,hp,fun x hx _=>?_⟩;rcases List.mem_cons.1 hx with rfl | hx
    ·exact .inl rfl
    ·exact .inr (hs'.1 x hx)
   ·rintro ⟨h1,h2,h3⟩;rcases h3 a List.mem_cons_self hp with h | h
    ·rw[h]
    ·rcases List.mem_cons.1 h1 with rfl | h1
     ·rfl
     ·have q:=zey (hs'.1 e h1);rw[h] at q;cases q
  | false =>
   simp only;rw[zfr p r hs'.2 e];constructor
   ·rintro ⟨h1,h2,h3⟩;refine⟨List.mem_cons_of_mem _ h1,h2,fun x hx hpx=>?_⟩;rcases List.mem_cons.1 hx with rfl | hx
    ·rw[hp] at hpx;cases hpx
    ·exact h3 x hx hpx
   ·rintro ⟨h1,h2,h3⟩;rcases List.mem_cons.1 h1 with rfl | h1
    ·rw[hp] at h2;cases h2
    ·exact⟨h1,h2,fun x hx=>h3 x (List.mem_cons_of_mem _ hx)⟩
theorem find_sub{p:Ent→Bool}{s l:List Ent}(hs:Sr s)(hl:Sr l)(hsub:∀ x∈s,x∈l){e:Ent}(h:l.find? p=some e)(he:e∈s):s.find? p=some e:=by
 rw[zfr p l hl] at h;rw[zfr p s hs];exact⟨he,h.2.1,fun x hx hp=>h.2.2 x (hsub x hx) hp⟩
theorem ziF{s l:List Ent}(hs:Sr s)(hl:Sr l)(hsub:∀ x∈s,x∈l){k:ByteArray}{q:Int}{e:Ent}(h:seenL l k q=some e)(he:e∈s):seenL s k q=some e:=find_sub hs hl hsub h he
def shP(es:List Ent)(q:Int)(e:Ent):Bool:=decide (seenL es e.key q=some e) && !e.gone
theorem zgX{es:List Ent}(hs:okL es=true)(q:Int):∀ i,i≤es.length→shTo es q i=(es.take i).filter (shP es q)
 | 0,_=>by rw[shTo];simp
 | i+1,hi=>by
  have ih:=zgX hs q i (by omega);have hb:shAt es q i=shP es q (nth es i):=by unfold shAt shP;rw[zhm hs q i (by omega)]
  rw[List.take_add_one,List.getElem?_eq_getElem (by omega),Option.toList_some,List.filter_append,← ih,← zU (by omega)];cases h:shAt es q i with
  | true=>rw[zii h,List.filter_cons,← hb,h];simp
  | false=>rw[zfb h,List.filter_cons,← hb,h];simp
theorem zdF{es:List Ent}(hs:okL es=true)(q:Int):zaJ es q=es.filter (shP es q):=by
 unfold zaJ;rw[if_pos hs,zgX hs q _ (nR _),List.take_of_length_le (nR _)]
theorem zjX{es:List Ent}(h:Sr es)(p:Ent→Bool):Sr (es.filter p):=h.sublist List.filter_sublist
theorem zhG{s l:List Ent}(hs:okL s=true)(hl:okL l=true)(hsub:∀ x∈s,x∈l)(q:Int)(h1:∀ e∈l,seenL l e.key q=some e→e.gone=false→e∈s)
 (h2:∀ e∈s,seenL s e.key q=some e→e.gone=false→seenL l e.key q=some e):zaJ s q=zaJ l q:=by
 rw[zdF hs,zdF hl];refine zma _ _ (zjX (zaV hs) _) (zjX (zaV hl) _) fun x=>?_
 simp only[List.mem_filter,shP,Bool.and_eq_true,decide_eq_true_eq,Bool.not_eq_true'];constructor
 ·rintro ⟨hm,hx,hg⟩;exact⟨hsub x hm,h2 x hm hx hg,hg⟩
 ·rintro ⟨hm,hx,hg⟩;have:=h1 x hm hx hg;exact⟨this,ziF (zaV hs) (zaV hl) hsub hx this,hg⟩
def kept(es:List Ent)(qs:List Int)(i:Nat):Bool :=
 decide (i=0) || !kEq (nth es (i-1)).key (nth es i).key||qs.any (fun q=>(seenL es (nth es i).key q).isSome&&decide (((seenL es (nth es i).key q).getD zeroE).seq=(nth es i).seq))
def seTo(es:List Ent)(qs:List Int):Nat→List Ent
 | 0=>[]
 | i+1=>if kept es qs i=true then seTo es qs i++[nth es i] else seTo es qs i
def zbs(es:List Ent)(qs:List Int):List Ent:=seTo es qs es.length
def toldS(es:List Ent)(qs:List Int):Bool:=okL es&&decide (qs.length≤20)
def zc0(es:List Ent)(qs:List Int):List Ent:=if toldS es qs=true then zbs es qs else []
def keptE(es:List Ent)(qs:List Int)(e:Ent):Bool:=es.all (fun x=>!kEq x.key e.key||decide (x=e)||ahd e x)||qs.any (fun q=>decide (seenL es e.key q=some e))
theorem zh5{a b c:Ent}(h1:ahd a b=true)(h2:ahd b c=true)(h:a.key=c.key):b.key=a.key:=by
 rw[za9] at h1 h2;rcases h1 with h1 | h1
 ·rcases h2 with h2 | h2
  ·have:=zeO h1 h2;rw[h,zab] at this;cases this
  ·rw[h2.1,h]
 ·exact h1.1.symm
theorem ks_eq{es:List Ent}(hs:Sr es){a b:Ent}(ha:a∈es)(hb:b∈es)(hk:a.key=b.key)(hq:a.seq=b.seq):a=b:=by
 obtain⟨i,hi,rfl⟩:=List.getElem_of_mem ha;obtain⟨j,hj,rfl⟩:=List.getElem_of_mem hb;have no:∀ x y:Ent,ahd x y=true→x.key=y.key→x.seq=y.seq→False:=fun x y h h1 h2=>by
  rw[za9,h1,zab] at h;rcases h with h | h
  ·cases h
  ·omega
 rcases Nat.lt_trichotomy i j with h | h | h
 ·exact absurd (no _ _ (List.pairwise_iff_getElem.1 hs i j hi hj h) hk hq) id
 ·subst h;rfl
 ·exact absurd (no _ _ (List.pairwise_iff_getElem.1 hs j i hj hi h) hk.symm hq.symm) id
theorem kept_iff{es:List Ent}(hok:okL es=true)(qs:List Int){i:Nat}(hi:i<es.length):kept es qs i=keptE es qs (nth es i):=by
 have hs:=zaV hok;unfold kept keptE;have e1:(decide (i=0) || !kEq (nth es (i-1)).key (nth es i).key)=es.all (fun x=>!kEq x.key (nth es i).key||decide (x=nth es i)||ahd (nth es i) x):=by
  rw[Bool.eq_iff_iff,List.all_eq_true];simp only[Bool.or_eq_true,decide_eq_true_eq,Bool.not_eq_true',kEq,decide_eq_false_iff_not];constructor
  ·intro h x hx;obtain⟨j,hj,rfl⟩:=List.getElem_of_mem hx;rw[← zU hj];rcases Nat.lt_trichotomy i j with hij | hij | hij
   ·exact .inr (zbS hok hij hj)
   ·subst hij;exact .inl (.inr rfl)
   ·refine .inl (.inl fun hk=>?_);rcases h with h | h
    ·omega
    ·refine h ?_;by_cases hj1:j=i-1
     ·rw[← hj1];exact hk
     ·have:=zh5 (zbS hok (show j<i-1 by omega) (by omega)) (zbS hok (show i-1<i by omega) hi) hk;rw[this];exact hk
  ·intro h;by_cases h0:i=0
   ·exact .inl h0
   ·refine .inr fun hk=>?_
    have hp:=zbS hok (show i-1<i by omega) hi;rcases h (nth es (i-1)) (by rw[zU (by omega)];exact List.getElem_mem _) with (h | h) | h
    ·exact h hk
    ·rw[h,zbl] at hp;cases hp
    ·have:=zey hp;rw[h] at this;cases this
 rw[e1];congr 2
 funext q
 cases hq:seenL es (nth es i).key q with
 | none=>simp
 | some u =>
  have hu:u∈es:=List.mem_of_find?_eq_some hq;have hk:=(za7 hq).1;have hm:nth es i∈es:=by rw[zU hi];exact List.getElem_mem hi
  simp only[Option.isSome_some,Bool.true_and,Option.getD_some,Option.some.injEq];apply decide_eq_decide.2;exact⟨fun h=>ks_eq hs hu hm hk h,fun h=>by rw[h]⟩
theorem zgC{es:List Ent}(hok:okL es=true)(qs:List Int):∀ i,i≤es.length→seTo es qs i=(es.take i).filter (keptE es qs)
 | 0,_=>by rw[seTo];simp
 | i+1,hi=>by
  have ih:=zgC hok qs i (by omega);rw[List.take_add_one,List.getElem?_eq_getElem (by omega),Option.toList_some,List.filter_append,← ih,← zU (by omega),seTo,kept_iff hok qs (by omega),List.filter_cons];cases keptE es qs (nth es i)<;>simp
theorem zfH{es:List Ent}(hok:okL es=true)(qs:List Int):zbs es qs=es.filter (keptE es qs):=by
 unfold zbs;rw[zgC hok qs _ (nR _),List.take_of_length_le (nR _)]
theorem zh8{es fs:List Ent}(h:okL es=true)(hs:fs.Sublist es):okL fs=true:=by
 rw[zaD] at h ⊢;exact⟨nT hs.length_le h.1,fun e he=>h.2.1 e (hs.subset he),h.2.2.sublist hs⟩
theorem zf8{es:List Ent}(hok:okL es=true)(qs:List Int):(zbs es qs).Sublist es:=by rw[zfH hok];exact List.filter_sublist
theorem zfY{es:List Ent}(hok:okL es=true)(qs:List Int):okL (zbs es qs)=true:=zh8 hok (zf8 hok qs)
theorem zgA{es:List Ent}(hok:okL es=true)(qs:List Int){t:Int}(ht:t∈qs∨t=1000000){e:Ent}(h:seenL es e.key t=some e):e∈zbs es qs:=by
 have he:e∈es:=List.mem_of_find?_eq_some h;rw[zfH hok,List.mem_filter];refine⟨he,?_⟩;unfold keptE;rw[Bool.or_eq_true];rcases ht with ht | ht
 ·exact .inr (List.any_eq_true.2 ⟨t,ht,by simpa using h⟩)
 ·left
  rw[List.all_eq_true];intro x hx;simp only[Bool.or_eq_true,Bool.not_eq_true',decide_eq_true_eq];by_cases hk:x.key=e.key
  ·have hf:=(zfr _ es (zaV hok) e).1 h;have hxe:=okL_all' hok x hx;rcases hf.2.2 x hx (by simp[seenP,kEq,hk,ht,hxe]) with h | h
   ·exact .inl (.inr h)
   ·exact .inr h
  ·exact .inl (.inl (by simp[kEq,hk]))
where
 okL_all' {es:List Ent} (hok:okL es=true) (x:Ent) (hx:x∈es):x.seq≤1000000:=by
  have:=((zaD es).1 hok).2.1 x hx;simp only[okE,Bool.and_eq_true,decide_eq_true_eq] at this;exact this.2
theorem zkA{es:List Ent}(hok:okL es=true)(qs:List Int){t:Int}(ht:t∈qs∨t=1000000):zaJ (zbs es qs) t=zaJ es t:=by
 have hsub:∀ x∈zbs es qs,x∈es:=fun x hx=>(zf8 hok qs).subset hx
 refine zhG (zfY hok qs) hok hsub t (fun e _ h _=>zgA hok qs ht h) (fun e he h _=>?_);cases h0:seenL es e.key t with
 | none =>
  have h1:=za7 h;have:=List.find?_eq_none.1 h0 e (hsub e he);simp[seenP,kEq,h1.2] at this
 | some u =>
  have hk:=(za7 h0).1;have hu:=zgA hok qs ht (e:=u) (by rw[hk];exact h0);have:=ziF (zaV (zfY hok qs)) (zaV hok) hsub h0 hu;rw[h] at this;exact this.symm ▸ rfl
def botS(e:Ent)(out:List Ent):List Ent:=if (decide (out.length=0) || !kEq (nth out 0).key e.key)&&e.gone then out else e::out
def zG(es:List Ent):List Ent:=es.foldr botS []
def zgv(es:List Ent)(qs:List Int):List Ent:=if toldS es qs=true then zG (zbs es qs) else []
theorem botS_sub(e:Ent)(out:List Ent):(botS e out).Sublist (e::out):=by
 unfold botS;split
 ·exact List.sublist_cons_self _ _
 ·exact List.Sublist.refl _
theorem zbp:∀ es:List Ent,(zG es).Sublist es
 | []=>List.Sublist.refl _
 | e::r=>(botS_sub e (zG r)).trans ((zbp r).cons_cons e)
theorem zc5:∀ {es:List Ent},Sr es→∀ e∈es,e ∉ zG es→e.gone=true∧∀ x∈zG es,ahd e x=true→x.key≠e.key
 | [],_,e,he,_=>by cases he
 | a::r,hs,e,he,hn=>by
  have hs':=List.pairwise_cons.1 hs;have hb:zG (a::r)=botS a (zG r):=rfl;rw[hb] at hn ⊢;by_cases hc:((decide ((zG r).length=0) || !kEq (nth (zG r) 0).key a.key)&&a.gone)=true
  ·have hbs:botS a (zG r)=zG r:=(by unfold botS;rw[if_pos hc]);rw[hbs] at hn ⊢;rcases List.mem_cons.1 he with rfl | her
   ·simp only[Bool.and_eq_true,Bool.or_eq_true,decide_eq_true_eq,Bool.not_eq_true',kEq,decide_eq_false_iff_not] at hc;refine⟨hc.2,fun x hx hax hk=>?_⟩;rcases hc.1 with h0 | h0
    ·have:=List.length_eq_zero_iff.1 h0;rw[this] at hx;cases hx
    ·have hsr:Sr (zG r):=hs'.2.sublist (zbp r);cases hbr:zG r with
     | nil=>rw[hbr] at hx;cases hx
     | cons y s =>
      rw[hbr] at hx h0 hsr;rw[zb4] at h0;rcases List.mem_cons.1 hx with rfl | hx
      ·exact h0 hk
      ·have hy:y∈r:=(zbp r).subset (by rw[hbr];exact List.mem_cons_self);exact h0 (zh5 (hs'.1 y hy) ((List.pairwise_cons.1 hsr).1 x hx) hk.symm)
   ·exact zc5 hs'.2 e her hn
  ·have hbs:botS a (zG r)=a::zG r:=(by unfold botS;rw[if_neg hc]);rw[hbs] at hn ⊢;rcases List.mem_cons.1 he with rfl | her
   ·exact absurd List.mem_cons_self hn
   ·obtain⟨h1,h2⟩:=zc5 hs'.2 e her (fun h=>hn (List.mem_cons_of_mem _ h));refine⟨h1,fun x hx hex=>?_⟩;rcases List.mem_cons.1 hx with rfl | hx
    ·have:=zey (hs'.1 e her);rw[hex] at this;cases this
    ·exact h2 x hx hex
theorem zi4{es:List Ent}(hok:okL es=true):okL (zG es)=true:=zh8 hok (zbp es)
theorem zjH{es:List Ent}(hok:okL es=true)(t:Int):zaJ (zG es) t=zaJ es t:=by
 have hsub:∀ x∈zG es,x∈es:=fun x hx=>(zbp es).subset hx
 refine zhG (zi4 hok) hok hsub t (fun e he _ hg=>?_) (fun e he h _=>?_)
 ·refine Decidable.byContradiction fun hn=>?_
  have:=(zc5 (zaV hok) e he hn).1;rw[hg] at this;cases this
 ·cases h0:seenL es e.key t with
  | none =>
   have h1:=za7 h;have:=List.find?_eq_none.1 h0 e (hsub e he);simp[seenP,kEq,h1.2] at this
  | some u =>
   have hk:=(za7 h0).1;have hu:u∈es:=List.mem_of_find?_eq_some h0;have hf:=(zfr _ es (zaV hok) u).1 h0;have h1:=za7 h;rcases hf.2.2 e (hsub e he) (by simp[seenP,kEq,h1.2]) with h2 | h2
   ·rw[h2]
   ·by_cases hub:u∈zG es
    ·have:=ziF (zaV (zi4 hok)) (zaV hok) hsub h0 hub;rw[h] at this;exact this.symm ▸ rfl
    ·exact absurd hk.symm ((zc5 (zaV hok) u hu hub).2 e he h2)
structure Src where
 v:Value
 es:List Ent
 no:Nat
def Src.hd(s:Src):Ent:=nth s.es 0
def ltT(x:Ent)(i:Nat)(y:Ent)(j:Nat):Bool:=ahd x y||(zP x y&&decide (i<j))
theorem zes(x:Ent):zP x x=true:=by rw[za3];exact⟨rfl,rfl⟩
theorem zaH{x y:Ent}(h:zP x y=true):zP y x=true:=by rw[za3] at h ⊢;exact⟨h.1.symm,h.2.symm⟩
theorem zcA{x y z:Ent}(h:zP x y=true)(k:zP y z=true):zP x z=true:=by rw[za3] at h k ⊢;exact⟨h.1.trans k.1,h.2.trans k.2⟩
theorem zfi{x y z:Ent}(h:ahd x y=true)(hz:zP y z=true):ahd x z=true:=by
 rw[za3] at hz;rw[za9] at h ⊢;rw[← hz.1,← hz.2];exact h
theorem zbM{x y:Ent}(h:ahd x y=true)(k:zP x y=true):False:=by
 have:=zfi h (zaH k);rw[zbl] at this;cases this
theorem zcI(x:Ent)(i:Nat)(y:Ent)(j:Nat):ltT x i y j=true↔ahd x y=true∨(zP x y=true∧i<j):=by simp[ltT]
theorem zcO(x:Ent)(i:Nat):ltT x i x i=false:=by
 cases h:ltT x i x i with
 | false=>rfl
 | true =>
  rw[zcI] at h;rcases h with h | h
  ·rw[zbl] at h;cases h
  ·omega
theorem zgt{x y z:Ent}{i j k:Nat}(h:ltT x i y j=true)(h2:ltT y j z k=true):ltT x i z k=true:=by
 rw[zcI] at *;rcases h with h | h
 ·rcases h2 with h2 | h2
  ·exact .inl (zaR h h2)
  ·exact .inl (zfi h h2.1)
 ·rcases h2 with h2 | h2
  ·exact .inl (znV h.1 h2)
  ·exact .inr ⟨zcA h.1 h2.1,by omega⟩
theorem zpq(x:Ent)(i:Nat)(y:Ent)(j:Nat):ltT x i y j=true∨ltT y j x i=true∨(zP x y=true∧i=j):=by
 rw[zcI,zcI];cases hs:zP x y with
 | true =>
  rcases Nat.lt_trichotomy i j with h | h | h
  ·exact .inl (.inr ⟨rfl,h⟩)
  ·exact .inr (.inr ⟨rfl,h⟩)
  ·exact .inr (.inl (.inr ⟨zaH hs,h⟩))
 | false =>
  cases ha:ahd x y with
  | true=>exact .inl (.inl rfl)
  | false=>exact .inr (.inl (.inl (zkJ ha hs)))
theorem zpm{x y:Ent}{i j:Nat}(h:ltT x i y j=true):ltT y j x i=false:=by
 cases h2:ltT y j x i with
 | false=>rfl
 | true=>have:=zgt h h2;rw[zcO] at this;cases this
def lessS(a b:Src):Bool:=ltT a.hd a.no b.hd b.no
theorem zc3{a b:Src}(h:lessS a b=true):lessS b a=false:=zpm h
theorem le_trans{a b c:Src}(h:lessS b a=false)(h2:lessS c b=false):lessS c a=false:=by
 cases h3:lessS c a with
 | false=>rfl
 | true =>
  rcases zpq a.hd a.no b.hd b.no with k | k | k
  ·have h4:=zgt h3 k;unfold lessS at h2;rw[h4] at h2;cases h2
  ·unfold lessS at h;rw[k] at h;cases h
  ·have h4:ltT c.hd c.no b.hd b.no=true:=by
    unfold lessS at h3;rw[zcI] at h3 ⊢;rcases h3 with h3 | h3
    ·exact .inl (zfi h3 k.1)
    ·exact .inr ⟨zcA h3.1 k.1,by omega⟩
   unfold lessS at h2;rw[h4] at h2;cases h2
def zeroS:Src:=⟨.slice none 0 0,[],0⟩
def sN(hs:List Src)(i:Nat):Src:=hs.getD i zeroS
theorem sN_eq{hs:List Src}{i:Nat}(h:i<hs.length):sN hs i=hs[i]:=by simp[sN,List.getD,List.getElem?_eq_getElem h]
theorem zjJ{hs:List Src}{i:Nat}(h:i<hs.length):sN hs i∈hs:=by rw[sN_eq h];exact List.getElem_mem h
def swapS(hs:List Src)(i j:Nat):List Src:=(hs.set i (sN hs j)).set j (sN hs i)
theorem zcp(hs:List Src)(i j:Nat):(swapS hs i j).length=hs.length:=by simp[swapS]
theorem zep{hs:List Src}{i j k:Nat}(hi:i<hs.length)(hj:j<hs.length):sN (swapS hs i j) k=if k=j then sN hs i else if k=i then sN hs j else sN hs k:=by
 unfold swapS;by_cases hk:k<hs.length
 ·rw[sN_eq (by simpa using hk)];simp only[List.getElem_set];by_cases h1:k=j
  ·subst h1;simp
  ·have h1':¬ j=k:=fun e=>h1 e.symm
   by_cases h2:k=i
   ·subst h2;simp[h1,h1']
   ·have h2':¬ i=k:=fun e=>h2 e.symm
    simp[h1,h1',h2,h2',sN_eq hk]
 ·rw[if_neg (by omega),if_neg (by omega)];unfold sN List.getD;rw[List.getElem?_eq_none (by simpa using hk),List.getElem?_eq_none (by omega)]
theorem zce{hs:List Src}{i j:Nat}(hi:i<hs.length)(hj:j<hs.length):(swapS hs i j).Perm hs:=by
 have h:=Array.swap_perm (xs:=hs.toArray) (i:=i) (j:=j) (by simpa using hi) (by simpa using hj);rw[Array.perm_iff_toList_perm] at h;have e:(hs.toArray.swap i j (by simpa using hi) (by simpa using hj)).toList=swapS hs i j:=by
  simp[Array.swap,swapS,sN_eq hi,sN_eq hj]
 rw[e] at h;exact h
def HP(hs:List Src)(n:Nat):Prop:=∀ k,0<k→k<n→lessS (sN hs k) (sN hs ((k-1) / 2))=false
def upOk(hs:List Src)(j:Nat):Prop :=
 (∀ k,0<k→k<hs.length→k≠j→lessS (sN hs k) (sN hs ((k-1) / 2))=false)∧(∀ k,0<k→k<hs.length→(k-1) / 2=j→0<j→lessS (sN hs k) (sN hs ((j-1) / 2))=false)
theorem up_step{hs:List Src}{j:Nat}(hj:j<hs.length)(hj0:0<j)(h:upOk hs j)(hl:lessS (sN hs j) (sN hs ((j-1) / 2))=true):upOk (swapS hs ((j-1) / 2) j) ((j-1) / 2):=by
 obtain⟨h1,h2⟩:=h;obtain⟨i,hi⟩:∃ i,i=(j-1) / 2:=⟨_,rfl⟩;rw[← hi] at hl h2 ⊢;have hil:i<hs.length:=by omega
 have S:=fun k=>zep (hs:=hs) (i:=i) (j:=j) (k:=k) hil hj
 refine⟨fun k hk0 hk hki=>?_,fun k hk0 hk hkp hi0=>?_⟩
 ·rw[zcp] at hk;by_cases hkj:k=j
  ·subst hkj;rw[← hi,S k,if_pos rfl,S i,if_neg (by omega),if_pos rfl];exact zc3 hl
  ·rw[S k,if_neg hkj,if_neg hki];by_cases hp:(k-1) / 2=j
   ·rw[hp,S j,if_pos rfl];exact h2 k hk0 hk hp hj0
   ·by_cases hp2:(k-1) / 2=i
    ·rw[hp2,S i,if_neg (by omega),if_pos rfl];have h3:=h1 k hk0 hk hkj;rw[hp2] at h3;exact le_trans (zc3 hl) h3
    ·rw[S _,if_neg hp,if_neg hp2];exact h1 k hk0 hk hkj
 ·rw[zcp] at hk;have hgp:(i-1) / 2≠j∧(i-1) / 2≠i:=by omega
  rw[S ((i-1) / 2),if_neg hgp.1,if_neg hgp.2];have h3:=h1 i hi0 hil (by omega);by_cases hkj:k=j
  ·subst hkj;rw[S k,if_pos rfl];exact h3
  ·rw[S k,if_neg hkj,if_neg (by omega)];have h4:=h1 k hk0 hk hkj;rw[hkp] at h4;exact le_trans h3 h4
theorem up_zero{hs:List Src}(h:upOk hs 0):HP hs hs.length:=fun k hk0 hk=>h.1 k hk0 hk (by omega)
theorem up_stop{hs:List Src}{j:Nat}(h:upOk hs j)(hl:lessS (sN hs j) (sN hs ((j-1) / 2))=false):HP hs hs.length:=fun k hk0 hk=>by
 by_cases hkj:k=j
 ·subst hkj;exact hl
 ·exact h.1 k hk0 hk hkj
theorem ziR{hs:List Src}{s:Src}{k:Nat}(h:k<hs.length):sN (hs++[s]) k=sN hs k:=by
 rw[sN_eq h,sN_eq (by simp;omega)];exact List.getElem_append_left h
theorem up_push{hs:List Src}(s:Src)(h:HP hs hs.length):upOk (hs++[s]) hs.length:=by
 refine⟨fun k hk0 hk hkn=>?_,fun k hk0 hk hkp h0=>?_⟩
 ·rw[lA] at hk;simp at hk;rw[ziR (by omega),ziR (by omega)];exact h k hk0 (by omega)
 ·rw[lA] at hk;simp at hk;omega
def dnOk(hs:List Src)(i n:Nat):Prop :=
 (∀ k,0<k→k<n→(k-1) / 2≠i→lessS (sN hs k) (sN hs ((k-1) / 2))=false)∧(∀ k,0<k→k<n→(k-1) / 2=i→0<i→lessS (sN hs k) (sN hs ((i-1) / 2))=false)
theorem zks{hs:List Src}{i j n:Nat}(hn:n≤hs.length)(hj:j<n)(hjp:j=2*i+1∨j=2*i+2)(h:dnOk hs i n)(hc:∀ k,k<n→k=2*i+1∨k=2*i+2→lessS (sN hs k) (sN hs j)=false)
 (hl:lessS (sN hs j) (sN hs i)=true):dnOk (swapS hs i j) j n:=by
 obtain⟨h1,h2⟩:=h;have hil:i<hs.length:=by omega
 have hjl:j<hs.length:=by omega
 have S:=fun k=>zep (hs:=hs) (i:=i) (j:=j) (k:=k) hil hjl
 refine⟨fun k hk0 hk hkp=>?_,fun k hk0 hk hkp _=>?_⟩
 ·by_cases hkj:k=j
  ·subst hkj;rw[show (k-1) / 2=i by omega,S k,if_pos rfl,S i,if_neg (by omega),if_pos rfl];exact zc3 hl
  ·by_cases hki:k=i
   ·subst hki;rw[S k,if_neg hkj,if_pos rfl,S _,if_neg hkp,if_neg (by omega)];exact h2 j (by omega) hj (by omega) hk0
   ·rw[S k,if_neg hkj,if_neg hki];by_cases hp:(k-1) / 2=i
    ·rw[hp,S i,if_neg (by omega),if_pos rfl];exact hc k hk (by omega)
    ·rw[S _,if_neg hkp,if_neg hp];exact h1 k hk0 hk hp
 ·rw[show (j-1) / 2=i by omega,S k,if_neg (by omega),if_neg (by omega),S i,if_neg (by omega),if_pos rfl];have:=h1 k hk0 hk (by omega);rw[hkp] at this;exact this
theorem dn_end{hs:List Src}{i n:Nat}(h:dnOk hs i n)(hj:n≤2*i+1):HP hs n:=fun k hk0 hk=>h.1 k hk0 hk (by omega)
theorem zlb{hs:List Src}{i j n:Nat}(h:dnOk hs i n)(hc:∀ k,k<n→k=2*i+1∨k=2*i+2→lessS (sN hs k) (sN hs j)=false)(hl:lessS (sN hs j) (sN hs i)=false):HP hs n:=fun k hk0 hk=>by
 by_cases hp:(k-1) / 2=i
 ·rw[hp];exact le_trans hl (hc k hk (by omega))
 ·exact h.1 k hk0 hk hp
theorem dn_root{hs:List Src}{n:Nat}(hn:hs.length=n+1)(h:HP hs hs.length):dnOk (swapS hs 0 n) 0 n:=by
 have S:=fun k=>zep (hs:=hs) (i:=0) (j:=n) (k:=k) (by omega) (by omega)
 refine⟨fun k hk0 hk hkp=>?_,fun k _ _ _ h0=>by omega⟩;rw[S k,if_neg (by omega),if_neg (by omega),S _,if_neg (by omega),if_neg hkp];exact h k hk0 (by omega)
theorem HP_min{hs:List Src}{n:Nat}(h:HP hs n):∀ k,k<n→lessS (sN hs k) (sN hs 0)=false:=by
 intro k;induction k using Nat.strongRecOn with
 | _ k ih =>
  intro hk;by_cases h0:k=0
  ·subst h0;exact zcO _ _
  ·exact le_trans (ih ((k-1) / 2) (by omega) (by omega)) (h k (by omega) hk)
theorem HP_take{hs:List Src}{n:Nat}(hn:n≤hs.length)(h:HP hs n):HP (hs.take n) (hs.take n).length:=by
 have hl:(hs.take n).length=n:=by rw[List.length_take];omega
 have S:∀ k,k<n→sN (hs.take n) k=sN hs k:=fun k hk=>by rw[sN_eq (by omega),sN_eq (by omega)];exact List.getElem_take
 intro k hk0 hk;rw[hl] at hk;rw[S k hk,S _ (by omega)];exact h k hk0 hk
def First(ls:List (List Ent))(z:Ent):Prop:=∃ (i:Nat) (l:List Ent),ls[i]? = some l∧z∈l∧∀ (j:Nat) (m:List Ent),j<i→ls[j]? = some m→∀ u∈m,zP u z=false
theorem mrg_keep{a b:List Ent}{z:Ent}(h:z∈a):z∈mrg a b:=(znF _ a b (nR _) z).1 h
theorem zoj:∀ (n:Nat) (a b:List Ent),a.length+b.length≤n→Sr a→Sr b→∀ z,z∈mrg a b↔z∈a∨(z∈b∧∀ u∈a,zP u z=false):=by
 intro n;induction n with
 | zero =>
  intro a b hn _ _ z;have ha:a=[]:=List.eq_nil_of_length_eq_zero (by omega);have hb:b=[]:=List.eq_nil_of_length_eq_zero (by omega);subst ha;subst hb;simp[mrg]
 | succ n ih =>
  intro a b hn sa sb z;match a,b with
  | [],b=>rw[mrg];simp
  | x::r,[]=>rw[mrg];simp
  | x::r,y::s =>
   have sa':=List.pairwise_cons.1 sa;have sb':=List.pairwise_cons.1 sb;have bel:∀ u∈y::s,u=y∨ahd y u=true:=fun u hu=>by
    rcases List.mem_cons.1 hu with h | h
    ·exact .inl h
    ·exact .inr (sb'.1 u h)
   have ael:∀ u∈x::r,u=x∨ahd x u=true:=fun u hu=>by
    rcases List.mem_cons.1 hu with h | h
    ·exact .inl h
    ·exact .inr (sa'.1 u h)
   cases hxy:ahd x y with
   | true =>
    rw[mrg,if_pos hxy,List.mem_cons,ih r (y::s) (by simp at hn ⊢;omega) sa'.2 sb z,List.mem_cons (a:=z) (b:=x) (l:=r)];constructor
    ·rintro (h | h | h)
     ·exact .inl (.inl h)
     ·exact .inl (.inr h)
     ·refine .inr ⟨h.1,fun u hu=>?_⟩;rcases List.mem_cons.1 hu with e | hu
      ·subst e;cases hk:zP u z with
       | false=>rfl
       | true =>
        rcases bel z h.1 with e | e
        ·subst e;exact(zbM hxy hk).elim
        ·exact(zbM (zaR hxy e) hk).elim
      ·exact h.2 u hu
    ·rintro ((h | h) | h)
     ·exact .inl h
     ·exact .inr (.inl h)
     ·exact .inr (.inr ⟨h.1,fun u hu=>h.2 u (List.mem_cons_of_mem _ hu)⟩)
   | false =>
    cases hyx:ahd y x with
    | true =>
     rw[mrg,if_neg (by rw[hxy];simp),if_pos hyx,List.mem_cons,ih (x::r) s (by simp at hn ⊢;omega) sa sb'.2 z,List.mem_cons (a:=z) (b:=y)];have hy:∀ u∈x::r,zP u y=false:=fun u hu=>by
      cases hk:zP u y with
      | false=>rfl
      | true =>
       rcases ael u hu with e | e
       ·subst e;exact(zbM hyx (zaH hk)).elim
       ·exact(zbM (zaR hyx e) (zaH hk)).elim
     constructor
     ·rintro (h | h | h)
      ·subst h;exact .inr ⟨.inl rfl,hy⟩
      ·exact .inl h
      ·exact .inr ⟨.inr h.1,h.2⟩
     ·rintro (h | ⟨h | h,h2⟩)
      ·exact .inr (.inl h)
      ·exact .inl h
      ·exact .inr (.inr ⟨h,h2⟩)
    | false =>
     have hs:zP x y=true:=zgr x y (by rw[hxy];simp) (by rw[hyx];simp);rw[mrg,if_neg (by rw[hxy];simp),if_neg (by rw[hyx];simp),ih (x::r) s (by simp at hn ⊢;omega) sa sb'.2 z,List.mem_cons (a:=z) (b:=y)];constructor
     ·rintro (h | h)
      ·exact .inl h
      ·exact .inr ⟨.inr h.1,h.2⟩
     ·rintro (h | ⟨h | h,h2⟩)
      ·exact .inl h
      ·subst h;have:=h2 x List.mem_cons_self;rw[hs] at this;cases this
      ·exact .inr ⟨h,h2⟩
theorem mF_iff(ls:List (List Ent))(hs:∀ l∈ls,Sr l):∀ a:List Ent,Sr a→∀ z,z∈ls.foldl mrg a↔z∈a∨(First ls z∧∀ u∈a,zP u z=false):=by
 induction ls with
 | nil =>
  intro a _ z;constructor
  ·intro h;exact .inl h
  ·rintro (h | ⟨⟨i,l,h,_⟩,_⟩)
   ·exact h
   ·simp at h
 | cons l r ih =>
  intro a sa z;have sl:=hs l List.mem_cons_self;rw[List.foldl_cons,ih (fun m hm=>hs m (List.mem_cons_of_mem _ hm)) _ (zpb _ a l (nR _) sa sl) z,zoj _ a l (nR _) sa sl z];constructor
  ·rintro ((h | ⟨h1,h2⟩) | ⟨⟨i,m,hm,hz,hj⟩,h2⟩)
   ·exact .inl h
   ·exact .inr ⟨⟨0,l,rfl,h1,fun j m hj=>by omega⟩,h2⟩
   ·have hmrg:∀ u,u∈mrg a l→zP u z=false:=h2;refine .inr ⟨⟨i+1,m,hm,hz,fun j m' hj' hm' u hu=>?_⟩,fun u hu=>hmrg u (mrg_keep hu)⟩;cases j with
    | zero =>
     have:m'=l:=(by simpa using hm'.symm);subst this;cases hk:zP u z with
     | false=>rfl
     | true =>
      obtain⟨o,ho,hs2⟩:=(znF _ a m' (nR _) u).2 hu;have:=hmrg o ho;rw[zcA hs2 hk] at this;cases this
    | succ j=>exact hj j m' (by omega) (by simpa using hm') u hu
  ·rintro (h | ⟨⟨i,m,hm,hz,hj⟩,h2⟩)
   ·exact .inl (.inl h)
   ·cases i with
    | zero =>
     have:m=l:=(by simpa using hm.symm);subst this;exact .inl (.inr ⟨hz,h2⟩)
    | succ i =>
     refine .inr ⟨⟨i,m,by simpa using hm,hz,fun j m' hj' hm' u hu=>hj (j+1) m' (by omega) (by simpa using hm') u hu⟩,fun u hu=>?_⟩;rcases zgj hu with h | h
     ·exact h2 u h
     ·exact hj 0 l (by omega) rfl u h
theorem zgR{ls:List (List Ent)}(hs:∀ l∈ls,Sr l)(z:Ent):z∈zj ls↔First ls z:=by
 unfold zj;rw[mF_iff ls hs [] List.Pairwise.nil z];simp
structure Told (ls:List (List Ent)) (hs:List Src) (P:List (Ent×Nat)) (out:List Ent):Prop where
 left:∀ s∈hs,s.es≠[]∧Sr s.es∧∃ l,ls[s.no]? = some l∧∀ e∈s.es,e∈l
 apart:(hs.map Src.no).Nodup
 part:∀ p∈P,∃ l,ls[p.2]? = some l∧p.1∈l
 all:∀ i l e,ls[i]? = some l→e∈l→(e,i)∈P∨∃ s∈hs,s.no=i∧e∈s.es
 ahead:∀ p∈P,∀ s∈hs,∀ e∈s.es,ltT p.1 p.2 e s.no=true
 sorted:Sr out
 first:∀ o∈out,∃ j,(o,j)∈P∧∀ p∈P,zP p.1 o=true→j≤p.2
 has:∀ p∈P,∃ o∈out,zP o p.1=true
theorem told_end{ls:List (List Ent)}{P:List (Ent×Nat)}{out:List Ent}(hs:∀ l∈ls,Sr l)(h:Told ls [] P out):out=zj ls:=by
 refine zma _ _ h.sorted (mF_sr ls hs [] List.Pairwise.nil) fun z=>?_
 show z∈out↔z∈zj ls;rw[zgR hs];constructor
 ·intro hz;obtain⟨j,hj,hf⟩:=h.first z hz;obtain⟨l,hl,hzl⟩:=h.part _ hj;refine⟨j,l,hl,hzl,fun i m hi hm u hu=>?_⟩;cases hk:zP u z with
  | false=>rfl
  | true =>
   rcases h.all i m u hm hu with hp | ⟨s,hs',_⟩
   ·have:=hf _ hp hk;simp only at this;omega
   ·cases hs'
 ·rintro ⟨i,l,hl,hz,hf⟩;rcases h.all i l z hl hz with hp | ⟨s,hs',_⟩
  ·obtain⟨o,ho,hk⟩:=h.has _ hp;obtain⟨j,hj,hm⟩:=h.first o ho;have hji:=hm _ hp (zaH hk);simp only at hji hk;obtain⟨l',hl',hol⟩:=h.part _ hj;by_cases hlt:j<i
   ·have:=hf j l' hlt hl' o hol;rw[hk] at this;cases this
   ·have:j=i:=(by omega);subst this;simp only at hl';rw[hl] at hl';obtain rfl:=Option.some.inj hl';have hks:=(za3 o z).1 hk;have:=ks_eq (hs l (List.mem_of_getElem? hl)) hol hz hks.1 hks.2;rw[← this];exact ho
  ·cases hs'
end Go.Proofs.YtjlnchhgkfnldaaGreat
