import Derived.Test.YtmlmlemiidedcaaGreatG03
import Derived.Test.YtmlmlemiidedcaaGreatEntSpecShown
namespace Go.Proofs.YtmlmlemiidedcaaGreat
set_option maxHeartbeats 16000000
set_option maxRecDepth 100000
open Go.RowKit
theorem wpAnyH_more {P:Program} {md:Region.Mode} {ops:Array Oper} {Q:Exit→Act→World→Prop} {S S':World→Prop} (hSS:∀ w,S' w→S w) :
 ∀ (fuel:Nat) (listed:Array Bool) (a:Act) (w:World),wpAnyH P md ops Q S' fuel listed a w→wpAnyH P md ops Q S fuel listed a w
 | 0,_,_,_,h=>h
 | fuel+1,_,_,_,h=>⟨h.1,fun i hi=>wpOp_mono (fun a' w' h'=>⟨hSS _ h'.1,wpAnyH_more hSS fuel _ a' w' h'.2⟩) (h.2 i hi)⟩
theorem wpAnyH_listed {P:Program} {md:Region.Mode} {ops:Array Oper} {Q:Exit→Act→World→Prop} {S:World→Prop} {fuel:Nat} {l l':Array Bool} {a:Act} {w:World} (hl:l=l') (h:wpAnyH P md ops Q S fuel l' a w):wpAnyH P md ops Q S fuel l a w:=by subst hl;exact h
theorem own_g {w w':World} {B g:Nat} {v:Value} {bs:List UInt8} (h:Own w B v bs) (hg:w.grownBy w' (some g)) (hB:g < B):Own w' B v bs :=
 row_kept h hg (fun k hk e=>by have:=(World.ownsRow.lt h k hk).1;simp at e;omega)
theorem gr_of_below {w w':World} (g:Nat) (h:Below w.heap.size w w'):w.grownBy w' (some g):=gr_below (gr_refl w (some g)) h
theorem step_makeB {w:World} {ops:Array Oper} {o:Oper} {a:Act} {K:Act→World→Prop} {Q:Exit→Act→World→Prop} {E:Prop} (hgd:o.guard=none) (d:Nat) (hd:o.dst=some d) (l c:Operand) (ho:o.op=.makeSlice 22 l c)
 (n:Nat) (x:Int) (hx:x=(n:Int)) (hl:a.eval l=.int .i64 x) (hc:a.eval c=.int .i64 x) (hn:n≤1000000) (B:Nat) (hB:B≤w.heap.size)
 (h:∀ b W',Own W' B (.slice (some ⟨b,0,none⟩) n n) (List.replicate n 0)→Below w.heap.size w W'→K (a.put (some d) (.slice (some ⟨b,0,none⟩) n n)) W') :
 if Region.wanted o (yielded ops a.tmps)=true then Oper.wp Tryz.prog o a w K Q else E:=by
 subst hx
 have hw:Region.wanted o (yielded ops a.tmps)=true:=by simp [Region.wanted,hgd]
 rw [if_pos hw]
 obtain ⟨i0,hi,hz0,hz1,hz2⟩:=info_parts Tryz.info5
 obtain ⟨w',hrun,r1,r2⟩:=run_make_full (P:=Tryz.prog) w B 22 5 i0 (.int .u8 0) 1 Tryz.underlying22 hi hz0 hz1 .i64 .i64 n (by rw [hz2];omega) (by unfold maxLen;omega) hB
 have r3:Own w' B (.slice (some ⟨w.heap.size,0,none⟩) n n) (List.replicate n 0):=by
  unfold Own
  rw [List.length_replicate,← madeB,← Nat.mul_one n]
  simpa [Value.cells] using r1
 have h':=h _ w' r3 ((Below.refl _ _).grown r2 (Nat.le_refl _) (fun k hk=>by cases hk))
 rw [← hd] at h'
 unfold Oper.wp
 simp [execOp,ho,hl,hc,hrun,Result.andThen]
 exact h'
def CellAt (N:Nat) (W:World) (b j:Nat) (v:Value):Prop:=W.cell? ⟨b,j,none⟩=some v∧N≤b
theorem CellAt.g {N:Nat} {W W':World} {b j g:Nat} {v:Value} (h:CellAt N W b j v) (hg:W.grownBy W' (some g)) (hl:g < N):CellAt N W' b j v :=
 ⟨by rw [World.cell?_of_block (a:=⟨b,j,none⟩) (hg.block b (World.block_lt_of_cell? W _ h.1) (by simp;have:=h.2;omega))];exact h.1,h.2⟩
theorem CellAt.app {N:Nat} {W W':World} {b j:Nat} {v vL:Value} (h:CellAt N W b j v) (hg:W.grownBy W' vL.ownBlock) (hl:∀ k,vL.ownBlock=some k→k < N):CellAt N W' b j v :=
 ⟨by rw [World.cell?_of_block (a:=⟨b,j,none⟩) (hg.block b (World.block_lt_of_cell? W _ h.1) (fun e=>by have:=hl b e.symm;have:=h.2;omega))];exact h.1,h.2⟩
theorem own_app {N:Nat} {W W':World} {u vL:Value} {bs:List UInt8} (h:Own W N u bs) (hg:W.grownBy W' vL.ownBlock) (hl:∀ k,vL.ownBlock=some k→k < N):Own W' N u bs :=
 row_kept h hg (fun k hk e=>by have:=(World.ownsRow.lt h k hk).1;have:=hl k e;omega)
theorem pick3 {N:Nat} {W:World} {b j:Nat} {s:ByteArray} (h0:CellAt N W b 0 (.string ⟨#[]⟩)) (h1:CellAt N W b 1 (.string ⟨#[122,122]⟩)) (h2:CellAt N W b 2 (.string s)) (hj:j < 3) (hs:s.size≤1000):∃ t:ByteArray,t.size≤1000∧CellAt N W b j (.string t):=by
 match j,hj with
 | 0,_=>exact ⟨_,by decide,h0⟩
 | 1,_=>exact ⟨_,by decide,h1⟩
 | 2,_=>exact ⟨_,hs,h2⟩
theorem pick4 {N:Nat} {W:World} {b j:Nat} (h0:CellAt N W b 0 (.int .i64 0)) (h1:CellAt N W b 1 (.int .i64 1)) (h2:CellAt N W b 2 (.int .i64 1000000)) (h3:CellAt N W b 3 (.int .i64 1000001)) (hj:j < 4):∃ n:Int,0≤n∧n≤1000001∧CellAt N W b j (.int .i64 n):=by
 match j,hj with
 | 0,_=>exact ⟨_,by decide,by decide,h0⟩
 | 1,_=>exact ⟨_,by decide,by decide,h1⟩
 | 2,_=>exact ⟨_,by decide,by decide,h2⟩
 | 3,_=>exact ⟨_,by decide,by decide,h3⟩
theorem small_mk {k v:ByteArray} {q:Int} {b:Bool} (h1:k.size≤1000) (h2:v.size≤1000) (h3:0≤q) (h4:q≤1000000000):Small ⟨k,v,q,b⟩:=⟨h1,h2,h3,h4⟩
theorem step_alloc {w:World} {ops:Array Oper} {o:Oper} {a:Act} {K:Act→World→Prop} {Q:Exit→Act→World→Prop} {E:Prop} (hgd:o.guard=none) (d:Nat) (hd:o.dst=some d) (cs:Array Value) (t:TypeId) (n:Nat)
 (hrun:(execOp a.eval o).run Tryz.prog w=.ok (.value (.slice (some ⟨w.heap.size,0,none⟩) n n)) (w.alloc (.cells cs t)))
 (h:∀ b W',Below w.heap.size w W'→w.heap.size≤b→(∀ j,W'.cell? ⟨b,j,none⟩=cs[j]?)→K (a.put (some d) (.slice (some ⟨b,0,none⟩) n n)) W') :
 if Region.wanted o (yielded ops a.tmps)=true then Oper.wp Tryz.prog o a w K Q else E:=by
 have hw:Region.wanted o (yielded ops a.tmps)=true:=by simp [Region.wanted,hgd]
 rw [if_pos hw]
 have h':=h w.heap.size _ (below1 w (.cells cs t)) (Nat.le_refl _) (fun j=>by simp)
 rw [← hd] at h'
 unfold Oper.wp
 rw [hrun]
 exact h'
theorem small_app {es:List Ent} {x:Ent} (h:∀ y∈es,Small y) (hx:Small x):∀ y∈es++[x],Small y:=by
 intro y hy
 rcases List.mem_append.1 hy with hy | hy
 ·exact h y hy
 ·simp at hy;subst hy;exact hx
theorem kU0DrawAny (i d:Nat) {P:Program} {ops:Array Oper} {Q:Exit→Act→World→Prop} {md:Region.Mode} {S:World→Prop} {oi:Oper} {v:Value} {fuel:Nat} {listed:Array Bool} {a a':Act} {w:World} (hS:S w) (h:wpAnyH P md ops (NoPanic Q) S fuel (listed.setIfInBounds i true) a' w) (hi:ops[i]? = some oi:=by rfl) (hd:oi.dst=some d:=by rfl) (hs:Region.noSelect ops=true:=by kernel_rfl) (hf:Region.free md ops listed i=true:=by kernel_rfl) (hr:(Region.ready md ops listed).contains i=true:=by kernel_rfl) (hw:Region.wanted oi (yielded ops a.tmps)=true:=by kernel_rfl) (hy:∀ w,S w→(execOp a.eval oi).run P w=.ok (.value v) w:=by intro w hS;(try dsimp only [CellAt] at hS);go_simp;(try with_reducible rfl)) (ha:a.put (some d) v=a':=by (try simp only [Act.put,sA,sZ,sS]);(try rfl)):wpAnyH P md ops (NoPanic Q) S (fuel+1) listed a w:=takeH hi hd hs hf hr (fun _ _ _ h=>h) (Or.inl ⟨hw,hy⟩) hS (ha ▸ h)
theorem l3DrawAny_any (w0 w:World) (g:Nat) (h:DCur w0 w g) :
 Calls Tryz.prog 65 #[.pointer (some ⟨g,0,none⟩)] w fun e w'=>ListD w0 w g 400 e w':=by
 have hlt:=h.lt
 go_enter Tryz.func65,Tryz.ntmps65
 go_wp2_with fail
 refine (l3DrawFrom_any w0 _ g h).mono ?_
 rintro e w1 ⟨vL,es,rfl,ho1,hl1,hs1,hc1,hg1⟩
 have HS:Hid (∀ x∈es,Small x):=hs1
 clear hs1
 go_wp2_with fail
 refine (l1Once_any w0 _ g 12 hc1 (by omega) (by omega)).mono ?_
 rintro e w2 ⟨b,rfl,hc2,hg2⟩
 have ho2:=ownE_g ho1 hg2 hlt
 have hgr2:=gr_trans hg1 hg2
 clear ho1 hc1 hg1 hg2
 cases b with
 | false =>
  go_wp2
  go_ret
  exact ⟨_,es,rfl,ho2,by omega,HS.out,hc2,hgr2⟩
 | true =>
  go_wp2_with fail
  refine (l1Below_any w0 _ g 4 hc2 (by omega) (by omega)).mono ?_
  rintro e w3 ⟨x,rfl,hx0,hx1,hc3,hg3⟩
  have ho3:=ownE_g ho2 hg3 hlt
  have hgr3:=gr_trans hgr2 hg3
  have hs3:=hgr3.size
  clear ho2 hc2 hgr2 hg3
  have hx:x=0∨x=1∨x=2∨x=3:=by omega
  clear hx0 hx1
  rcases hx with rfl | rfl | rfl | rfl
  ·skip
   go_wp2_with fail
   refine (l3DrawEntry_any w0 _ g 3 hc3).mono ?_
   rintro e w4 ⟨z,rfl,hz0,hz1,hz2,hc4,hg4⟩
   have ho4:=ownE_g ho3 hg4 hlt
   have hgr4:=gr_trans hgr3 hg4
   have hs4:=hgr4.size
   have HZ:Hid (Small z):=⟨hz0,hz1,by omega,by omega⟩
   clear ho3 hc3 hgr3 hg4 hz2
   go_wp2_with (at_builtin;(refine wpList_append_ents rfl _ _ rfl w.heap.size _ _ es [z] rfl rfl ?c1 ?c2 ?c3 ?c4 ?_))
   case c1=>exact ho4.below (below1 _ _)
   case c2=>exact rdE_oneS (entAt_boxS _ z _)
   case c3=>simp;omega
   case c4=>simp;omega
   intro v5 w5 ho5 hg5
   have hc5:=(hc4.alloc (.cells #[.string z.key,.string z.val,.int .i64 z.seq,.bool z.gone] 50)).grow hg5 (fun k hk=>by have:=(World.ownsRow.lt ho4 k hk).1;omega)
   have hgr5:=gr_young (gr_alloc hgr4 _) hg5 (fun k hk=>(World.ownsRow.lt ho4 k hk).1)
   clear ho4 hc4 hgr4 hg5
   go_wp2
   go_ret
   exact ⟨_,_,rfl,ho5,by rw [List.length_append];simp;omega,small_app HS.out HZ.out,hc5,hgr5⟩
  ·skip
   obtain ⟨sV,hsV⟩:∃ sV:ByteArray,sV=⟨(List.replicate 41 (0:UInt8)).toArray⟩:=⟨_,rfl⟩
   have S41:Hid (sV.size≤1000):=by rw [hsV];show (List.replicate 41 (0:UInt8)).toArray.size≤1000;simp
   have HCV:Hid (∀ W u,Own W w3.heap.size u (List.replicate 41 0)→(convert 22 9 u).run Tryz.prog W=.ok (.string sV) W):=fun W u h=>by rw [hsV];exact conv_own h
   clear hsV
   go_wp2_with fail
   refine wp_region_noPanic ?_
   refine wp_region_held_drew (S:=fun _=>True) (by kernel_rfl) trivial (fun h0=>?_)
   have qd:DCur w0 w3.drew g:=hc3.drewN 1
   have qo:OwnE w3.drew w.heap.size vL es:=ho3.drewN 1
   have qr:w.grownBy w3.drew (some g):=gr_drewN hgr3 1
   have hvb:∀ k,vL.ownBlock=some k→k < w3.heap.size:=ownE_lt ho3
   have hlt3:g < w3.heap.size:=hc3.lt
   have hN:w3.heap.size≤w3.drew.heap.size:=Nat.le_refl _
   clear ho3 hc3 hgr3
   revert qd qo qr hN
   generalize w3.drew=W0
   intro qd qo qr hN
   refine kU0DrawAny 0 20 h0 ?_
   refine kU0DrawAny 4 24 h0 ?_
   refine kU0DrawAny 9 29 h0 ?_
   clear h0
   revert hN
   revert qr
   revert qo
   revert qd
   revert W0
   intro W0 qd qo qr hN
   have hS1:(fun _=>True) W0:=trivial
   refine wpAnyH_ready (rs:=[1,5,8]) (by kernel_rfl) (by simp) ?_
   refine AllReadyH.cons rfl (fun K hK=>?_) ?_
   refine step_makeB rfl 21 rfl _ _ rfl (41) _ (rfl) rfl rfl (by omega) w3.heap.size hN ?_
   intro bM W1 qM2 hbl
   replace qd:=qd.below hbl
   replace qo:=ownE_g qo (gr_of_below g hbl) hlt
   replace qr:=gr_trans qr (gr_of_below g hbl)
   refine hK.out _ _ trivial (fun hS2=>?_)
   clear hK K
   try simp only [Act.put,sA,sZ,sS]
   clear hS1
   replace hN:w3.heap.size≤W1.heap.size:=Nat.le_trans hN hbl.size
   have qM:=qM2
   have qV:=HCV.out _ _ qM
   clear qM2 hbl
   have hS3:(fun W'=>(convert 22 9 (.slice (some ⟨bM,0,none⟩) 41 41)).run Tryz.prog W'=.ok (.string sV) W') W1:=qV
   refine wpAnyH_more (S':=fun W'=>(convert 22 9 (.slice (some ⟨bM,0,none⟩) 41 41)).run Tryz.prog W'=.ok (.string sV) W') (fun _ _=>trivial) _ _ _ _ ?_
   clear hS2
   clear W0
   refine kU0DrawAny 2 22 hS3 ?_
   clear hS3
   refine wpAnyH_listed (l':=#[true,true,true,false,true,false,false,false,false,true,false,false,false,false,false,false,false]) (by kernel_rfl) ?_
   revert qV
   revert qM
   revert hN
   revert qr
   revert qo
   revert qd
   revert bM
   revert W1
   refine ?k1
   rotate_left 1
   refine AllReadyH.cons rfl (fun K hK=>?_) ?_
   go_simp
   refine (l1Below_any w0 _ g 3 qd (by omega) (by omega)).mono ?_
   rintro e W1 ⟨xx,rfl,hxx0,hxx1,hdc,hgg⟩
   obtain ⟨jX,rfl⟩:∃ j:Nat,xx=(j:Int):=⟨xx.toNat,by omega⟩
   have hjX:jX < 3:=by omega
   replace qd:=hdc
   replace qo:=ownE_g qo hgg hlt
   replace qr:=gr_trans qr hgg
   refine hK.out _ _ trivial (fun hS4=>?_)
   clear hK K
   try simp only [sA,sZ,sS]
   clear hS1
   replace hN:w3.heap.size≤W1.heap.size:=Nat.le_trans hN hgg.size
   clear hxx0 hxx1 hdc hgg
   clear W0
   clear hS4
   refine wpAnyH_listed (l':=#[true,false,false,false,true,true,false,false,false,true,false,false,false,false,false,false,false]) (by kernel_rfl) ?_
   revert hjX
   revert hN
   revert qr
   revert qo
   revert qd
   revert jX
   revert W1
   refine ?k5
   rotate_left 1
   refine AllReadyH.cons rfl (fun K hK=>?_) AllReadyH.nil
   refine step_alloc rfl 28 rfl #[.int .i64 0,.int .i64 1,.int .i64 1000000,.int .i64 1000001] 2 4 (by go_simp;(try rfl)) ?_
   intro bD W1 hbl hge hcl
   replace qd:=qd.below hbl
   replace qo:=ownE_g qo (gr_of_below g hbl) hlt
   replace qr:=gr_trans qr (gr_of_below g hbl)
   refine hK.out _ _ trivial (fun hS5=>?_)
   clear hK K
   try simp only [Act.put,sA,sZ,sS]
   clear hS1
   have hwb:=Nat.le_trans hN hge
   have qD0:CellAt w3.heap.size W1 bD 0 (.int .i64 0):=⟨by rw [hcl];rfl,hwb⟩
   have qD1:CellAt w3.heap.size W1 bD 1 (.int .i64 1):=⟨by rw [hcl];rfl,hwb⟩
   have qD2:CellAt w3.heap.size W1 bD 2 (.int .i64 1000000):=⟨by rw [hcl];rfl,hwb⟩
   have qD3:CellAt w3.heap.size W1 bD 3 (.int .i64 1000001):=⟨by rw [hcl];rfl,hwb⟩
   replace hN:w3.heap.size≤W1.heap.size:=Nat.le_trans hN hbl.size
   clear hcl hge hbl hwb
   clear W0
   clear hS5
   refine wpAnyH_listed (l':=#[true,false,false,false,true,false,false,false,true,true,false,false,false,false,false,false,false]) (by kernel_rfl) ?_
   revert qD3
   revert qD2
   revert qD1
   revert qD0
   revert hN
   revert qr
   revert qo
   revert qd
   revert bD
   revert W1
   refine ?k8
   rotate_left 1
   intro W0 bM qd qo qr hN qM qV
   have hS6:(fun W'=>(convert 22 9 (.slice (some ⟨bM,0,none⟩) 41 41)).run Tryz.prog W'=.ok (.string sV) W') W0:=qV
   refine wpAnyH_ready (rs:=[3,5,8]) (by kernel_rfl) (by simp) ?_
   refine AllReadyH.cons rfl (fun K hK=>?_) ?_
   refine step_alloc rfl 23 rfl #[.string ⟨#[]⟩,.string ⟨#[122,122]⟩,.string sV] 9 3 (by go_simp;(try rfl)) ?_
   intro bB W1 hbl hge hcl
   replace qd:=qd.below hbl
   replace qo:=ownE_g qo (gr_of_below g hbl) hlt
   replace qr:=gr_trans qr (gr_of_below g hbl)
   replace qM:=own_g qM (gr_of_below g hbl) hlt3
   replace qV:=HCV.out _ _ qM
   refine hK.out _ _ qV (fun hS7=>?_)
   clear hK K
   try simp only [Act.put,sA,sZ,sS]
   clear hS6
   have hwb:=Nat.le_trans hN hge
   have qB0:CellAt w3.heap.size W1 bB 0 (.string ⟨#[]⟩):=⟨by rw [hcl];rfl,hwb⟩
   have qB1:CellAt w3.heap.size W1 bB 1 (.string ⟨#[122,122]⟩):=⟨by rw [hcl];rfl,hwb⟩
   have qB2:CellAt w3.heap.size W1 bB 2 (.string sV):=⟨by rw [hcl];rfl,hwb⟩
   replace hN:w3.heap.size≤W1.heap.size:=Nat.le_trans hN hbl.size
   clear hcl hge hbl hwb
   clear W0
   clear hS7
   refine wpAnyH_listed (l':=#[true,true,true,true,true,false,false,false,false,true,false,false,false,false,false,false,false]) (by kernel_rfl) ?_
   revert qB2
   revert qB1
   revert qB0
   revert qV
   revert qM
   revert hN
   revert qr
   revert qo
   revert qd
   revert bB
   revert bM
   revert W1
   refine ?k1_3
   rotate_left 1
   refine AllReadyH.cons rfl (fun K hK=>?_) ?_
   go_simp
   refine (l1Below_any w0 _ g 3 qd (by omega) (by omega)).mono ?_
   rintro e W1 ⟨xx,rfl,hxx0,hxx1,hdc,hgg⟩
   obtain ⟨jX,rfl⟩:∃ j:Nat,xx=(j:Int):=⟨xx.toNat,by omega⟩
   have hjX:jX < 3:=by omega
   replace qd:=hdc
   replace qo:=ownE_g qo hgg hlt
   replace qr:=gr_trans qr hgg
   replace qM:=own_g qM hgg hlt3
   replace qV:=HCV.out _ _ qM
   refine hK.out _ _ qV (fun hS8=>?_)
   clear hK K
   try simp only [sA,sZ,sS]
   clear hS6
   replace hN:w3.heap.size≤W1.heap.size:=Nat.le_trans hN hgg.size
   clear hxx0 hxx1 hdc hgg
   clear W0
   clear hS8
   refine wpAnyH_listed (l':=#[true,true,true,false,true,true,false,false,false,true,false,false,false,false,false,false,false]) (by kernel_rfl) ?_
   revert hjX
   revert qV
   revert qM
   revert hN
   revert qr
   revert qo
   revert qd
   revert jX
   revert bM
   revert W1
   refine ?k1_5
   rotate_left 1
   refine AllReadyH.cons rfl (fun K hK=>?_) AllReadyH.nil
   refine step_alloc rfl 28 rfl #[.int .i64 0,.int .i64 1,.int .i64 1000000,.int .i64 1000001] 2 4 (by go_simp;(try rfl)) ?_
   intro bD W1 hbl hge hcl
   replace qd:=qd.below hbl
   replace qo:=ownE_g qo (gr_of_below g hbl) hlt
   replace qr:=gr_trans qr (gr_of_below g hbl)
   replace qM:=own_g qM (gr_of_below g hbl) hlt3
   replace qV:=HCV.out _ _ qM
   refine hK.out _ _ qV (fun hS9=>?_)
   clear hK K
   try simp only [Act.put,sA,sZ,sS]
   clear hS6
   have hwb:=Nat.le_trans hN hge
   have qD0:CellAt w3.heap.size W1 bD 0 (.int .i64 0):=⟨by rw [hcl];rfl,hwb⟩
   have qD1:CellAt w3.heap.size W1 bD 1 (.int .i64 1):=⟨by rw [hcl];rfl,hwb⟩
   have qD2:CellAt w3.heap.size W1 bD 2 (.int .i64 1000000):=⟨by rw [hcl];rfl,hwb⟩
   have qD3:CellAt w3.heap.size W1 bD 3 (.int .i64 1000001):=⟨by rw [hcl];rfl,hwb⟩
   replace hN:w3.heap.size≤W1.heap.size:=Nat.le_trans hN hbl.size
   clear hcl hge hbl hwb
   clear W0
   clear hS9
   refine wpAnyH_listed (l':=#[true,true,true,false,true,false,false,false,true,true,false,false,false,false,false,false,false]) (by kernel_rfl) ?_
   revert qD3
   revert qD2
   revert qD1
   revert qD0
   revert qV
   revert qM
   revert hN
   revert qr
   revert qo
   revert qd
   revert bD
   revert bM
   revert W1
   refine ?k1_8
   rotate_left 1
   intro W0 jX qd qo qr hN hjX
   have hS10:(fun _=>True) W0:=trivial
   refine wpAnyH_ready (rs:=[1,8,10]) (by kernel_rfl) (by simp) ?_
   refine AllReadyH.cons rfl (fun K hK=>?_) ?_
   refine step_makeB rfl 21 rfl _ _ rfl (41) _ (rfl) rfl rfl (by omega) w3.heap.size hN ?_
   intro bM W1 qM2 hbl
   replace qd:=qd.below hbl
   replace qo:=ownE_g qo (gr_of_below g hbl) hlt
   replace qr:=gr_trans qr (gr_of_below g hbl)
   refine hK.out _ _ trivial (fun hS11=>?_)
   clear hK K
   try simp only [Act.put,sA,sZ,sS]
   clear hS10
   replace hN:w3.heap.size≤W1.heap.size:=Nat.le_trans hN hbl.size
   have qM:=qM2
   have qV:=HCV.out _ _ qM
   clear qM2 hbl
   have hS12:(fun W'=>(convert 22 9 (.slice (some ⟨bM,0,none⟩) 41 41)).run Tryz.prog W'=.ok (.string sV) W') W1:=qV
   refine wpAnyH_more (S':=fun W'=>(convert 22 9 (.slice (some ⟨bM,0,none⟩) 41 41)).run Tryz.prog W'=.ok (.string sV) W') (fun _ _=>trivial) _ _ _ _ ?_
   clear hS11
   clear W0
   refine kU0DrawAny 2 22 hS12 ?_
   clear hS12
   refine wpAnyH_listed (l':=#[true,true,true,false,true,true,false,false,false,true,false,false,false,false,false,false,false]) (by kernel_rfl) ?_
   revert hjX
   revert qV
   revert qM
   revert hN
   revert qr
   revert qo
   revert qd
   revert jX
   revert bM
   revert W1
   refine ?k1_5
   refine AllReadyH.cons rfl (fun K hK=>?_) ?_
   refine step_alloc rfl 28 rfl #[.int .i64 0,.int .i64 1,.int .i64 1000000,.int .i64 1000001] 2 4 (by go_simp;(try rfl)) ?_
   intro bD W1 hbl hge hcl
   replace qd:=qd.below hbl
   replace qo:=ownE_g qo (gr_of_below g hbl) hlt
   replace qr:=gr_trans qr (gr_of_below g hbl)
   refine hK.out _ _ trivial (fun hS13=>?_)
   clear hK K
   try simp only [Act.put,sA,sZ,sS]
   clear hS10
   have hwb:=Nat.le_trans hN hge
   have qD0:CellAt w3.heap.size W1 bD 0 (.int .i64 0):=⟨by rw [hcl];rfl,hwb⟩
   have qD1:CellAt w3.heap.size W1 bD 1 (.int .i64 1):=⟨by rw [hcl];rfl,hwb⟩
   have qD2:CellAt w3.heap.size W1 bD 2 (.int .i64 1000000):=⟨by rw [hcl];rfl,hwb⟩
   have qD3:CellAt w3.heap.size W1 bD 3 (.int .i64 1000001):=⟨by rw [hcl];rfl,hwb⟩
   replace hN:w3.heap.size≤W1.heap.size:=Nat.le_trans hN hbl.size
   clear hcl hge hbl hwb
   clear W0
   clear hS13
   refine wpAnyH_listed (l':=#[true,false,false,false,true,true,false,false,true,true,false,false,false,false,false,false,false]) (by kernel_rfl) ?_
   revert qD3
   revert qD2
   revert qD1
   revert qD0
   revert hjX
   revert hN
   revert qr
   revert qo
   revert qd
   revert bD
   revert jX
   revert W1
   refine ?k5_8
   rotate_left 1
   refine AllReadyH.cons rfl (fun K hK=>?_) AllReadyH.nil
   go_simp
   refine (l1Below_any w0 _ g 4 qd (by omega) (by omega)).mono ?_
   rintro e W1 ⟨xx,rfl,hxx0,hxx1,hdc,hgg⟩
   obtain ⟨jY,rfl⟩:∃ j:Nat,xx=(j:Int):=⟨xx.toNat,by omega⟩
   have hjY:jY < 4:=by omega
   replace qd:=hdc
   replace qo:=ownE_g qo hgg hlt
   replace qr:=gr_trans qr hgg
   refine hK.out _ _ trivial (fun hS14=>?_)
   clear hK K
   try simp only [sA,sZ,sS]
   clear hS10
   replace hN:w3.heap.size≤W1.heap.size:=Nat.le_trans hN hgg.size
   clear hxx0 hxx1 hdc hgg
   clear W0
   clear hS14
   refine wpAnyH_listed (l':=#[true,false,false,false,true,true,false,false,false,true,true,false,false,false,false,false,false]) (by kernel_rfl) ?_
   revert hjY
   revert hjX
   revert hN
   revert qr
   revert qo
   revert qd
   revert jY
   revert jX
   revert W1
   refine ?k5_10
   rotate_left 1
   intro W0 bD qd qo qr hN qD0 qD1 qD2 qD3
   have hS15:(fun _=>True) W0:=trivial
   refine wpAnyH_ready (rs:=[1,5]) (by kernel_rfl) (by simp) ?_
   refine AllReadyH.cons rfl (fun K hK=>?_) ?_
   refine step_makeB rfl 21 rfl _ _ rfl (41) _ (rfl) rfl rfl (by omega) w3.heap.size hN ?_
   intro bM W1 qM2 hbl
   replace qd:=qd.below hbl
   replace qo:=ownE_g qo (gr_of_below g hbl) hlt
   replace qr:=gr_trans qr (gr_of_below g hbl)
   replace qD0:=CellAt.g qD0 (gr_of_below g hbl) hlt3
   replace qD1:=CellAt.g qD1 (gr_of_below g hbl) hlt3
   replace qD2:=CellAt.g qD2 (gr_of_below g hbl) hlt3
   replace qD3:=CellAt.g qD3 (gr_of_below g hbl) hlt3
   refine hK.out _ _ trivial (fun hS16=>?_)
   clear hK K
   try simp only [Act.put,sA,sZ,sS]
   clear hS15
   replace hN:w3.heap.size≤W1.heap.size:=Nat.le_trans hN hbl.size
   have qM:=qM2
   have qV:=HCV.out _ _ qM
   clear qM2 hbl
   have hS17:(fun W'=>(convert 22 9 (.slice (some ⟨bM,0,none⟩) 41 41)).run Tryz.prog W'=.ok (.string sV) W') W1:=qV
   refine wpAnyH_more (S':=fun W'=>(convert 22 9 (.slice (some ⟨bM,0,none⟩) 41 41)).run Tryz.prog W'=.ok (.string sV) W') (fun _ _=>trivial) _ _ _ _ ?_
   clear hS16
   clear W0
   refine kU0DrawAny 2 22 hS17 ?_
   clear hS17
   refine wpAnyH_listed (l':=#[true,true,true,false,true,false,false,false,true,true,false,false,false,false,false,false,false]) (by kernel_rfl) ?_
   revert qD3
   revert qD2
   revert qD1
   revert qD0
   revert qV
   revert qM
   revert hN
   revert qr
   revert qo
   revert qd
   revert bD
   revert bM
   revert W1
   refine ?k1_8
   refine AllReadyH.cons rfl (fun K hK=>?_) AllReadyH.nil
   go_simp
   refine (l1Below_any w0 _ g 3 qd (by omega) (by omega)).mono ?_
   rintro e W1 ⟨xx,rfl,hxx0,hxx1,hdc,hgg⟩
   obtain ⟨jX,rfl⟩:∃ j:Nat,xx=(j:Int):=⟨xx.toNat,by omega⟩
   have hjX:jX < 3:=by omega
   replace qd:=hdc
   replace qo:=ownE_g qo hgg hlt
   replace qr:=gr_trans qr hgg
   replace qD0:=CellAt.g qD0 hgg hlt3
   replace qD1:=CellAt.g qD1 hgg hlt3
   replace qD2:=CellAt.g qD2 hgg hlt3
   replace qD3:=CellAt.g qD3 hgg hlt3
   refine hK.out _ _ trivial (fun hS18=>?_)
   clear hK K
   try simp only [sA,sZ,sS]
   clear hS15
   replace hN:w3.heap.size≤W1.heap.size:=Nat.le_trans hN hgg.size
   clear hxx0 hxx1 hdc hgg
   clear W0
   clear hS18
   refine wpAnyH_listed (l':=#[true,false,false,false,true,true,false,false,true,true,false,false,false,false,false,false,false]) (by kernel_rfl) ?_
   revert qD3
   revert qD2
   revert qD1
   revert qD0
   revert hjX
   revert hN
   revert qr
   revert qo
   revert qd
   revert bD
   revert jX
   revert W1
   refine ?k5_8
   intro W0 bM bB qd qo qr hN qM qV qB0 qB1 qB2
   have hS19:(fun W'=>(convert 22 9 (.slice (some ⟨bM,0,none⟩) 41 41)).run Tryz.prog W'=.ok (.string sV) W') W0:=qV
   refine wpAnyH_ready (rs:=[5,8]) (by kernel_rfl) (by simp) ?_
   refine AllReadyH.cons rfl (fun K hK=>?_) ?_
   go_simp
   refine (l1Below_any w0 _ g 3 qd (by omega) (by omega)).mono ?_
   rintro e W1 ⟨xx,rfl,hxx0,hxx1,hdc,hgg⟩
   obtain ⟨jX,rfl⟩:∃ j:Nat,xx=(j:Int):=⟨xx.toNat,by omega⟩
   have hjX:jX < 3:=by omega
   replace qd:=hdc
   replace qo:=ownE_g qo hgg hlt
   replace qr:=gr_trans qr hgg
   replace qM:=own_g qM hgg hlt3
   replace qV:=HCV.out _ _ qM
   replace qB0:=CellAt.g qB0 hgg hlt3
   replace qB1:=CellAt.g qB1 hgg hlt3
   replace qB2:=CellAt.g qB2 hgg hlt3
   refine hK.out _ _ qV (fun hS20=>?_)
   clear hK K
   try simp only [sA,sZ,sS]
   clear hS19
   replace hN:w3.heap.size≤W1.heap.size:=Nat.le_trans hN hgg.size
   clear hxx0 hxx1 hdc hgg
   clear W0
   have hjXi:(jX:Int) < 3:=by omega
   refine kU0DrawAny 6 26 hS20 ?_
   clear hjXi
   obtain ⟨sL,hsL,qL⟩:=pick3 qB0 qB1 qB2 hjX S41.out
   have hS21:(fun W'=>(convert 22 9 (.slice (some ⟨bM,0,none⟩) 41 41)).run Tryz.prog W'=.ok (.string sV) W'∧CellAt w3.heap.size W' bB jX (.string sL)) W1:=⟨qV,qL⟩
   refine wpAnyH_more (S':=fun W'=>(convert 22 9 (.slice (some ⟨bM,0,none⟩) 41 41)).run Tryz.prog W'=.ok (.string sV) W'∧CellAt w3.heap.size W' bB jX (.string sL)) (fun _ h=>by obtain ⟨qV,qL⟩:=h;exact qV) _ _ _ _ ?_
   clear hS20
   refine kU0DrawAny 7 27 hS21 ?_
   clear hS21
   refine wpAnyH_listed (l':=#[true,true,true,true,true,true,true,true,false,true,false,false,false,false,false,false,false]) (by kernel_rfl) ?_
   revert hsL
   revert qL
   revert qB2
   revert qB1
   revert qB0
   revert hjX
   revert qV
   revert qM
   revert hN
   revert qr
   revert qo
   revert qd
   revert sL
   revert jX
   revert bB
   revert bM
   revert W1
   refine ?k1_3_5
   rotate_left 1
   refine AllReadyH.cons rfl (fun K hK=>?_) AllReadyH.nil
   refine step_alloc rfl 28 rfl #[.int .i64 0,.int .i64 1,.int .i64 1000000,.int .i64 1000001] 2 4 (by go_simp;(try rfl)) ?_
   intro bD W1 hbl hge hcl
   replace qd:=qd.below hbl
   replace qo:=ownE_g qo (gr_of_below g hbl) hlt
   replace qr:=gr_trans qr (gr_of_below g hbl)
   replace qM:=own_g qM (gr_of_below g hbl) hlt3
   replace qV:=HCV.out _ _ qM
   replace qB0:=CellAt.g qB0 (gr_of_below g hbl) hlt3
   replace qB1:=CellAt.g qB1 (gr_of_below g hbl) hlt3
   replace qB2:=CellAt.g qB2 (gr_of_below g hbl) hlt3
   refine hK.out _ _ qV (fun hS22=>?_)
   clear hK K
   try simp only [Act.put,sA,sZ,sS]
   clear hS19
   have hwb:=Nat.le_trans hN hge
   have qD0:CellAt w3.heap.size W1 bD 0 (.int .i64 0):=⟨by rw [hcl];rfl,hwb⟩
   have qD1:CellAt w3.heap.size W1 bD 1 (.int .i64 1):=⟨by rw [hcl];rfl,hwb⟩
   have qD2:CellAt w3.heap.size W1 bD 2 (.int .i64 1000000):=⟨by rw [hcl];rfl,hwb⟩
   have qD3:CellAt w3.heap.size W1 bD 3 (.int .i64 1000001):=⟨by rw [hcl];rfl,hwb⟩
   replace hN:w3.heap.size≤W1.heap.size:=Nat.le_trans hN hbl.size
   clear hcl hge hbl hwb
   clear W0
   clear hS22
   refine wpAnyH_listed (l':=#[true,true,true,true,true,false,false,false,true,true,false,false,false,false,false,false,false]) (by kernel_rfl) ?_
   revert qD3
   revert qD2
   revert qD1
   revert qD0
   revert qB2
   revert qB1
   revert qB0
   revert qV
   revert qM
   revert hN
   revert qr
   revert qo
   revert qd
   revert bD
   revert bB
   revert bM
   revert W1
   refine ?k1_3_8
   rotate_left 1
   intro W0 bM jX qd qo qr hN qM qV hjX
   have hS23:(fun W'=>(convert 22 9 (.slice (some ⟨bM,0,none⟩) 41 41)).run Tryz.prog W'=.ok (.string sV) W') W0:=qV
   refine wpAnyH_ready (rs:=[3,8,10]) (by kernel_rfl) (by simp) ?_
   refine AllReadyH.cons rfl (fun K hK=>?_) ?_
   refine step_alloc rfl 23 rfl #[.string ⟨#[]⟩,.string ⟨#[122,122]⟩,.string sV] 9 3 (by go_simp;(try rfl)) ?_
   intro bB W1 hbl hge hcl
   replace qd:=qd.below hbl
   replace qo:=ownE_g qo (gr_of_below g hbl) hlt
   replace qr:=gr_trans qr (gr_of_below g hbl)
   replace qM:=own_g qM (gr_of_below g hbl) hlt3
   replace qV:=HCV.out _ _ qM
   refine hK.out _ _ qV (fun hS24=>?_)
   clear hK K
   try simp only [Act.put,sA,sZ,sS]
   clear hS23
   have hwb:=Nat.le_trans hN hge
   have qB0:CellAt w3.heap.size W1 bB 0 (.string ⟨#[]⟩):=⟨by rw [hcl];rfl,hwb⟩
   have qB1:CellAt w3.heap.size W1 bB 1 (.string ⟨#[122,122]⟩):=⟨by rw [hcl];rfl,hwb⟩
   have qB2:CellAt w3.heap.size W1 bB 2 (.string sV):=⟨by rw [hcl];rfl,hwb⟩
   replace hN:w3.heap.size≤W1.heap.size:=Nat.le_trans hN hbl.size
   clear hcl hge hbl hwb
   clear W0
   have hjXi:(jX:Int) < 3:=by omega
   refine kU0DrawAny 6 26 hS24 ?_
   clear hjXi
   obtain ⟨sL,hsL,qL⟩:=pick3 qB0 qB1 qB2 hjX S41.out
   have hS25:(fun W'=>(convert 22 9 (.slice (some ⟨bM,0,none⟩) 41 41)).run Tryz.prog W'=.ok (.string sV) W'∧CellAt w3.heap.size W' bB jX (.string sL)) W1:=⟨qV,qL⟩
   refine wpAnyH_more (S':=fun W'=>(convert 22 9 (.slice (some ⟨bM,0,none⟩) 41 41)).run Tryz.prog W'=.ok (.string sV) W'∧CellAt w3.heap.size W' bB jX (.string sL)) (fun _ h=>by obtain ⟨qV,qL⟩:=h;exact qV) _ _ _ _ ?_
   clear hS24
   refine kU0DrawAny 7 27 hS25 ?_
   clear hS25
   refine wpAnyH_listed (l':=#[true,true,true,true,true,true,true,true,false,true,false,false,false,false,false,false,false]) (by kernel_rfl) ?_
   revert hsL
   revert qL
   revert qB2
   revert qB1
   revert qB0
   revert hjX
   revert qV
   revert qM
   revert hN
   revert qr
   revert qo
   revert qd
   revert sL
   revert jX
   revert bB
   revert bM
   revert W1
   refine ?k1_3_5
   refine AllReadyH.cons rfl (fun K hK=>?_) ?_
   refine step_alloc rfl 28 rfl #[.int .i64 0,.int .i64 1,.int .i64 1000000,.int .i64 1000001] 2 4 (by go_simp;(try rfl)) ?_
   intro bD W1 hbl hge hcl
   replace qd:=qd.below hbl
   replace qo:=ownE_g qo (gr_of_below g hbl) hlt
   replace qr:=gr_trans qr (gr_of_below g hbl)
   replace qM:=own_g qM (gr_of_below g hbl) hlt3
   replace qV:=HCV.out _ _ qM
   refine hK.out _ _ qV (fun hS26=>?_)
   clear hK K
   try simp only [Act.put,sA,sZ,sS]
   clear hS23
   have hwb:=Nat.le_trans hN hge
   have qD0:CellAt w3.heap.size W1 bD 0 (.int .i64 0):=⟨by rw [hcl];rfl,hwb⟩
   have qD1:CellAt w3.heap.size W1 bD 1 (.int .i64 1):=⟨by rw [hcl];rfl,hwb⟩
   have qD2:CellAt w3.heap.size W1 bD 2 (.int .i64 1000000):=⟨by rw [hcl];rfl,hwb⟩
   have qD3:CellAt w3.heap.size W1 bD 3 (.int .i64 1000001):=⟨by rw [hcl];rfl,hwb⟩
   replace hN:w3.heap.size≤W1.heap.size:=Nat.le_trans hN hbl.size
   clear hcl hge hbl hwb
   clear W0
   clear hS26
   refine wpAnyH_listed (l':=#[true,true,true,false,true,true,false,false,true,true,false,false,false,false,false,false,false]) (by kernel_rfl) ?_
   revert qD3
   revert qD2
   revert qD1
   revert qD0
   revert hjX
   revert qV
   revert qM
   revert hN
   revert qr
   revert qo
   revert qd
   revert bD
   revert jX
   revert bM
   revert W1
   refine ?k1_5_8
   rotate_left 1
   refine AllReadyH.cons rfl (fun K hK=>?_) AllReadyH.nil
   go_simp
   refine (l1Below_any w0 _ g 4 qd (by omega) (by omega)).mono ?_
   rintro e W1 ⟨xx,rfl,hxx0,hxx1,hdc,hgg⟩
   obtain ⟨jY,rfl⟩:∃ j:Nat,xx=(j:Int):=⟨xx.toNat,by omega⟩
   have hjY:jY < 4:=by omega
   replace qd:=hdc
   replace qo:=ownE_g qo hgg hlt
   replace qr:=gr_trans qr hgg
   replace qM:=own_g qM hgg hlt3
   replace qV:=HCV.out _ _ qM
   refine hK.out _ _ qV (fun hS27=>?_)
   clear hK K
   try simp only [sA,sZ,sS]
   clear hS23
   replace hN:w3.heap.size≤W1.heap.size:=Nat.le_trans hN hgg.size
   clear hxx0 hxx1 hdc hgg
   clear W0
   clear hS27
   refine wpAnyH_listed (l':=#[true,true,true,false,true,true,false,false,false,true,true,false,false,false,false,false,false]) (by kernel_rfl) ?_
   revert hjY
   revert hjX
   revert qV
   revert qM
   revert hN
   revert qr
   revert qo
   revert qd
   revert jY
   revert jX
   revert bM
   revert W1
   refine ?k1_5_10
   rotate_left 1
   intro W0 bM bD qd qo qr hN qM qV qD0 qD1 qD2 qD3
   have hS28:(fun W'=>(convert 22 9 (.slice (some ⟨bM,0,none⟩) 41 41)).run Tryz.prog W'=.ok (.string sV) W') W0:=qV
   refine wpAnyH_ready (rs:=[3,5]) (by kernel_rfl) (by simp) ?_
   refine AllReadyH.cons rfl (fun K hK=>?_) ?_
   refine step_alloc rfl 23 rfl #[.string ⟨#[]⟩,.string ⟨#[122,122]⟩,.string sV] 9 3 (by go_simp;(try rfl)) ?_
   intro bB W1 hbl hge hcl
   replace qd:=qd.below hbl
   replace qo:=ownE_g qo (gr_of_below g hbl) hlt
   replace qr:=gr_trans qr (gr_of_below g hbl)
   replace qM:=own_g qM (gr_of_below g hbl) hlt3
   replace qV:=HCV.out _ _ qM
   replace qD0:=CellAt.g qD0 (gr_of_below g hbl) hlt3
   replace qD1:=CellAt.g qD1 (gr_of_below g hbl) hlt3
   replace qD2:=CellAt.g qD2 (gr_of_below g hbl) hlt3
   replace qD3:=CellAt.g qD3 (gr_of_below g hbl) hlt3
   refine hK.out _ _ qV (fun hS29=>?_)
   clear hK K
   try simp only [Act.put,sA,sZ,sS]
   clear hS28
   have hwb:=Nat.le_trans hN hge
   have qB0:CellAt w3.heap.size W1 bB 0 (.string ⟨#[]⟩):=⟨by rw [hcl];rfl,hwb⟩
   have qB1:CellAt w3.heap.size W1 bB 1 (.string ⟨#[122,122]⟩):=⟨by rw [hcl];rfl,hwb⟩
   have qB2:CellAt w3.heap.size W1 bB 2 (.string sV):=⟨by rw [hcl];rfl,hwb⟩
   replace hN:w3.heap.size≤W1.heap.size:=Nat.le_trans hN hbl.size
   clear hcl hge hbl hwb
   clear W0
   clear hS29
   refine wpAnyH_listed (l':=#[true,true,true,true,true,false,false,false,true,true,false,false,false,false,false,false,false]) (by kernel_rfl) ?_
   revert qD3
   revert qD2
   revert qD1
   revert qD0
   revert qB2
   revert qB1
   revert qB0
   revert qV
   revert qM
   revert hN
   revert qr
   revert qo
   revert qd
   revert bD
   revert bB
   revert bM
   revert W1
   refine ?k1_3_8
   refine AllReadyH.cons rfl (fun K hK=>?_) AllReadyH.nil
   go_simp
   refine (l1Below_any w0 _ g 3 qd (by omega) (by omega)).mono ?_
   rintro e W1 ⟨xx,rfl,hxx0,hxx1,hdc,hgg⟩
   obtain ⟨jX,rfl⟩:∃ j:Nat,xx=(j:Int):=⟨xx.toNat,by omega⟩
   have hjX:jX < 3:=by omega
   replace qd:=hdc
   replace qo:=ownE_g qo hgg hlt
   replace qr:=gr_trans qr hgg
   replace qM:=own_g qM hgg hlt3
   replace qV:=HCV.out _ _ qM
   replace qD0:=CellAt.g qD0 hgg hlt3
   replace qD1:=CellAt.g qD1 hgg hlt3
   replace qD2:=CellAt.g qD2 hgg hlt3
   replace qD3:=CellAt.g qD3 hgg hlt3
   refine hK.out _ _ qV (fun hS30=>?_)
   clear hK K
   try simp only [sA,sZ,sS]
   clear hS28
   replace hN:w3.heap.size≤W1.heap.size:=Nat.le_trans hN hgg.size
   clear hxx0 hxx1 hdc hgg
   clear W0
   clear hS30
   refine wpAnyH_listed (l':=#[true,true,true,false,true,true,false,false,true,true,false,false,false,false,false,false,false]) (by kernel_rfl) ?_
   revert qD3
   revert qD2
   revert qD1
   revert qD0
   revert hjX
   revert qV
   revert qM
   revert hN
   revert qr
   revert qo
   revert qd
   revert bD
   revert jX
   revert bM
   revert W1
   refine ?k1_5_8
   intro W0 jX bD qd qo qr hN hjX qD0 qD1 qD2 qD3
   have hS31:(fun _=>True) W0:=trivial
   refine wpAnyH_ready (rs:=[1,10]) (by kernel_rfl) (by simp) ?_
   refine AllReadyH.cons rfl (fun K hK=>?_) ?_
   refine step_makeB rfl 21 rfl _ _ rfl (41) _ (rfl) rfl rfl (by omega) w3.heap.size hN ?_
   intro bM W1 qM2 hbl
   replace qd:=qd.below hbl
   replace qo:=ownE_g qo (gr_of_below g hbl) hlt
   replace qr:=gr_trans qr (gr_of_below g hbl)
   replace qD0:=CellAt.g qD0 (gr_of_below g hbl) hlt3
   replace qD1:=CellAt.g qD1 (gr_of_below g hbl) hlt3
   replace qD2:=CellAt.g qD2 (gr_of_below g hbl) hlt3
   replace qD3:=CellAt.g qD3 (gr_of_below g hbl) hlt3
   refine hK.out _ _ trivial (fun hS32=>?_)
   clear hK K
   try simp only [Act.put,sA,sZ,sS]
   clear hS31
   replace hN:w3.heap.size≤W1.heap.size:=Nat.le_trans hN hbl.size
   have qM:=qM2
   have qV:=HCV.out _ _ qM
   clear qM2 hbl
   have hS33:(fun W'=>(convert 22 9 (.slice (some ⟨bM,0,none⟩) 41 41)).run Tryz.prog W'=.ok (.string sV) W') W1:=qV
   refine wpAnyH_more (S':=fun W'=>(convert 22 9 (.slice (some ⟨bM,0,none⟩) 41 41)).run Tryz.prog W'=.ok (.string sV) W') (fun _ _=>trivial) _ _ _ _ ?_
   clear hS32
   clear W0
   refine kU0DrawAny 2 22 hS33 ?_
   clear hS33
   refine wpAnyH_listed (l':=#[true,true,true,false,true,true,false,false,true,true,false,false,false,false,false,false,false]) (by kernel_rfl) ?_
   revert qD3
   revert qD2
   revert qD1
   revert qD0
   revert hjX
   revert qV
   revert qM
   revert hN
   revert qr
   revert qo
   revert qd
   revert bD
   revert jX
   revert bM
   revert W1
   refine ?k1_5_8
   refine AllReadyH.cons rfl (fun K hK=>?_) AllReadyH.nil
   go_simp
   refine (l1Below_any w0 _ g 4 qd (by omega) (by omega)).mono ?_
   rintro e W1 ⟨xx,rfl,hxx0,hxx1,hdc,hgg⟩
   obtain ⟨jY,rfl⟩:∃ j:Nat,xx=(j:Int):=⟨xx.toNat,by omega⟩
   have hjY:jY < 4:=by omega
   replace qd:=hdc
   replace qo:=ownE_g qo hgg hlt
   replace qr:=gr_trans qr hgg
   replace qD0:=CellAt.g qD0 hgg hlt3
   replace qD1:=CellAt.g qD1 hgg hlt3
   replace qD2:=CellAt.g qD2 hgg hlt3
   replace qD3:=CellAt.g qD3 hgg hlt3
   refine hK.out _ _ trivial (fun hS34=>?_)
   clear hK K
   try simp only [sA,sZ,sS]
   clear hS31
   replace hN:w3.heap.size≤W1.heap.size:=Nat.le_trans hN hgg.size
   clear hxx0 hxx1 hdc hgg
   clear W0
   have hjYi:(jY:Int) < 4:=by omega
   refine kU0DrawAny 11 31 hS34 ?_
   clear hjYi
   obtain ⟨nI,hnI0,hnI1,qI⟩:=pick4 qD0 qD1 qD2 qD3 hjY
   have hS35:(fun W'=>CellAt w3.heap.size W' bD jY (.int .i64 nI)) W1:=qI
   refine wpAnyH_more (S':=fun W'=>CellAt w3.heap.size W' bD jY (.int .i64 nI)) (fun _ _=>trivial) _ _ _ _ ?_
   clear hS34
   refine kU0DrawAny 12 32 hS35 ?_
   clear hS35
   refine wpAnyH_listed (l':=#[true,false,false,false,true,true,false,false,true,true,true,true,true,false,false,false,false]) (by kernel_rfl) ?_
   revert hnI1
   revert hnI0
   revert qI
   revert qD3
   revert qD2
   revert qD1
   revert qD0
   revert hjY
   revert hjX
   revert hN
   revert qr
   revert qo
   revert qd
   revert nI
   revert jY
   revert bD
   revert jX
   revert W1
   refine ?k5_8_10
   rotate_left 1
   intro W0 jX jY qd qo qr hN hjX hjY
   have hS36:(fun _=>True) W0:=trivial
   refine wpAnyH_ready (rs:=[1,8]) (by kernel_rfl) (by simp) ?_
   refine AllReadyH.cons rfl (fun K hK=>?_) ?_
   refine step_makeB rfl 21 rfl _ _ rfl (41) _ (rfl) rfl rfl (by omega) w3.heap.size hN ?_
   intro bM W1 qM2 hbl
   replace qd:=qd.below hbl
   replace qo:=ownE_g qo (gr_of_below g hbl) hlt
   replace qr:=gr_trans qr (gr_of_below g hbl)
   refine hK.out _ _ trivial (fun hS37=>?_)
   clear hK K
   try simp only [Act.put,sA,sZ,sS]
   clear hS36
   replace hN:w3.heap.size≤W1.heap.size:=Nat.le_trans hN hbl.size
   have qM:=qM2
   have qV:=HCV.out _ _ qM
   clear qM2 hbl
   have hS38:(fun W'=>(convert 22 9 (.slice (some ⟨bM,0,none⟩) 41 41)).run Tryz.prog W'=.ok (.string sV) W') W1:=qV
   refine wpAnyH_more (S':=fun W'=>(convert 22 9 (.slice (some ⟨bM,0,none⟩) 41 41)).run Tryz.prog W'=.ok (.string sV) W') (fun _ _=>trivial) _ _ _ _ ?_
   clear hS37
   clear W0
   refine kU0DrawAny 2 22 hS38 ?_
   clear hS38
   refine wpAnyH_listed (l':=#[true,true,true,false,true,true,false,false,false,true,true,false,false,false,false,false,false]) (by kernel_rfl) ?_
   revert hjY
   revert hjX
   revert qV
   revert qM
   revert hN
   revert qr
   revert qo
   revert qd
   revert jY
   revert jX
   revert bM
   revert W1
   refine ?k1_5_10
   refine AllReadyH.cons rfl (fun K hK=>?_) AllReadyH.nil
   refine step_alloc rfl 28 rfl #[.int .i64 0,.int .i64 1,.int .i64 1000000,.int .i64 1000001] 2 4 (by go_simp;(try rfl)) ?_
   intro bD W1 hbl hge hcl
   replace qd:=qd.below hbl
   replace qo:=ownE_g qo (gr_of_below g hbl) hlt
   replace qr:=gr_trans qr (gr_of_below g hbl)
   refine hK.out _ _ trivial (fun hS39=>?_)
   clear hK K
   try simp only [Act.put,sA,sZ,sS]
   clear hS36
   have hwb:=Nat.le_trans hN hge
   have qD0:CellAt w3.heap.size W1 bD 0 (.int .i64 0):=⟨by rw [hcl];rfl,hwb⟩
   have qD1:CellAt w3.heap.size W1 bD 1 (.int .i64 1):=⟨by rw [hcl];rfl,hwb⟩
   have qD2:CellAt w3.heap.size W1 bD 2 (.int .i64 1000000):=⟨by rw [hcl];rfl,hwb⟩
   have qD3:CellAt w3.heap.size W1 bD 3 (.int .i64 1000001):=⟨by rw [hcl];rfl,hwb⟩
   replace hN:w3.heap.size≤W1.heap.size:=Nat.le_trans hN hbl.size
   clear hcl hge hbl hwb
   clear W0
   have hjYi:(jY:Int) < 4:=by omega
   refine kU0DrawAny 11 31 hS39 ?_
   clear hjYi
   obtain ⟨nI,hnI0,hnI1,qI⟩:=pick4 qD0 qD1 qD2 qD3 hjY
   have hS40:(fun W'=>CellAt w3.heap.size W' bD jY (.int .i64 nI)) W1:=qI
   refine wpAnyH_more (S':=fun W'=>CellAt w3.heap.size W' bD jY (.int .i64 nI)) (fun _ _=>trivial) _ _ _ _ ?_
   clear hS39
   refine kU0DrawAny 12 32 hS40 ?_
   clear hS40
   refine wpAnyH_listed (l':=#[true,false,false,false,true,true,false,false,true,true,true,true,true,false,false,false,false]) (by kernel_rfl) ?_
   revert hnI1
   revert hnI0
   revert qI
   revert qD3
   revert qD2
   revert qD1
   revert qD0
   revert hjY
   revert hjX
   revert hN
   revert qr
   revert qo
   revert qd
   revert nI
   revert jY
   revert bD
   revert jX
   revert W1
   refine ?k5_8_10
   intro W0 bM bB jX sL qd qo qr hN qM qV hjX qB0 qB1 qB2 qL hsL
   have hS41:(fun W'=>(convert 22 9 (.slice (some ⟨bM,0,none⟩) 41 41)).run Tryz.prog W'=.ok (.string sV) W'∧CellAt w3.heap.size W' bB jX (.string sL)) W0:=⟨qV,qL⟩
   refine wpAnyH_ready (rs:=[8,10]) (by kernel_rfl) (by simp) ?_
   refine AllReadyH.cons rfl (fun K hK=>?_) ?_
   refine step_alloc rfl 28 rfl #[.int .i64 0,.int .i64 1,.int .i64 1000000,.int .i64 1000001] 2 4 (by go_simp;(try rfl)) ?_
   intro bD W1 hbl hge hcl
   replace qd:=qd.below hbl
   replace qo:=ownE_g qo (gr_of_below g hbl) hlt
   replace qr:=gr_trans qr (gr_of_below g hbl)
   replace qM:=own_g qM (gr_of_below g hbl) hlt3
   replace qV:=HCV.out _ _ qM
   replace qB0:=CellAt.g qB0 (gr_of_below g hbl) hlt3
   replace qB1:=CellAt.g qB1 (gr_of_below g hbl) hlt3
   replace qB2:=CellAt.g qB2 (gr_of_below g hbl) hlt3
   replace qL:=CellAt.g qL (gr_of_below g hbl) hlt3
   refine hK.out _ _ ⟨qV,qL⟩ (fun hS42=>?_)
   clear hK K
   try simp only [Act.put,sA,sZ,sS]
   clear hS41
   have hwb:=Nat.le_trans hN hge
   have qD0:CellAt w3.heap.size W1 bD 0 (.int .i64 0):=⟨by rw [hcl];rfl,hwb⟩
   have qD1:CellAt w3.heap.size W1 bD 1 (.int .i64 1):=⟨by rw [hcl];rfl,hwb⟩
   have qD2:CellAt w3.heap.size W1 bD 2 (.int .i64 1000000):=⟨by rw [hcl];rfl,hwb⟩
   have qD3:CellAt w3.heap.size W1 bD 3 (.int .i64 1000001):=⟨by rw [hcl];rfl,hwb⟩
   replace hN:w3.heap.size≤W1.heap.size:=Nat.le_trans hN hbl.size
   clear hcl hge hbl hwb
   clear W0
   clear hS42
   refine wpAnyH_listed (l':=#[true,true,true,true,true,true,true,true,true,true,false,false,false,false,false,false,false]) (by kernel_rfl) ?_
   revert hsL
   revert qL
   revert qD3
   revert qD2
   revert qD1
   revert qD0
   revert qB2
   revert qB1
   revert qB0
   revert hjX
   revert qV
   revert qM
   revert hN
   revert qr
   revert qo
   revert qd
   revert sL
   revert bD
   revert jX
   revert bB
   revert bM
   revert W1
   refine ?k1_3_5_8
   rotate_left 1
   refine AllReadyH.cons rfl (fun K hK=>?_) AllReadyH.nil
   go_simp
   refine (l1Below_any w0 _ g 4 qd (by omega) (by omega)).mono ?_
   rintro e W1 ⟨xx,rfl,hxx0,hxx1,hdc,hgg⟩
   obtain ⟨jY,rfl⟩:∃ j:Nat,xx=(j:Int):=⟨xx.toNat,by omega⟩
   have hjY:jY < 4:=by omega
   replace qd:=hdc
   replace qo:=ownE_g qo hgg hlt
   replace qr:=gr_trans qr hgg
   replace qM:=own_g qM hgg hlt3
   replace qV:=HCV.out _ _ qM
   replace qB0:=CellAt.g qB0 hgg hlt3
   replace qB1:=CellAt.g qB1 hgg hlt3
   replace qB2:=CellAt.g qB2 hgg hlt3
   replace qL:=CellAt.g qL hgg hlt3
   refine hK.out _ _ ⟨qV,qL⟩ (fun hS43=>?_)
   clear hK K
   try simp only [sA,sZ,sS]
   clear hS41
   replace hN:w3.heap.size≤W1.heap.size:=Nat.le_trans hN hgg.size
   clear hxx0 hxx1 hdc hgg
   clear W0
   clear hS43
   refine wpAnyH_listed (l':=#[true,true,true,true,true,true,true,true,false,true,true,false,false,false,false,false,false]) (by kernel_rfl) ?_
   revert hsL
   revert qL
   revert qB2
   revert qB1
   revert qB0
   revert hjY
   revert hjX
   revert qV
   revert qM
   revert hN
   revert qr
   revert qo
   revert qd
   revert sL
   revert jY
   revert jX
   revert bB
   revert bM
   revert W1
   refine ?k1_3_5_10
   rotate_left 1
   intro W0 bM bB bD qd qo qr hN qM qV qB0 qB1 qB2 qD0 qD1 qD2 qD3
   have hS44:(fun W'=>(convert 22 9 (.slice (some ⟨bM,0,none⟩) 41 41)).run Tryz.prog W'=.ok (.string sV) W') W0:=qV
   refine wpAnyH_ready (rs:=[5]) (by kernel_rfl) (by simp) ?_
   refine AllReadyH.cons rfl (fun K hK=>?_) AllReadyH.nil
   go_simp
   refine (l1Below_any w0 _ g 3 qd (by omega) (by omega)).mono ?_
   rintro e W1 ⟨xx,rfl,hxx0,hxx1,hdc,hgg⟩
   obtain ⟨jX,rfl⟩:∃ j:Nat,xx=(j:Int):=⟨xx.toNat,by omega⟩
   have hjX:jX < 3:=by omega
   replace qd:=hdc
   replace qo:=ownE_g qo hgg hlt
   replace qr:=gr_trans qr hgg
   replace qM:=own_g qM hgg hlt3
   replace qV:=HCV.out _ _ qM
   replace qB0:=CellAt.g qB0 hgg hlt3
   replace qB1:=CellAt.g qB1 hgg hlt3
   replace qB2:=CellAt.g qB2 hgg hlt3
   replace qD0:=CellAt.g qD0 hgg hlt3
   replace qD1:=CellAt.g qD1 hgg hlt3
   replace qD2:=CellAt.g qD2 hgg hlt3
   replace qD3:=CellAt.g qD3 hgg hlt3
   refine hK.out _ _ qV (fun hS45=>?_)
   clear hK K
   try simp only [sA,sZ,sS]
   clear hS44
   replace hN:w3.heap.size≤W1.heap.size:=Nat.le_trans hN hgg.size
   clear hxx0 hxx1 hdc hgg
   clear W0
   have hjXi:(jX:Int) < 3:=by omega
   refine kU0DrawAny 6 26 hS45 ?_
   clear hjXi
   obtain ⟨sL,hsL,qL⟩:=pick3 qB0 qB1 qB2 hjX S41.out
   have hS46:(fun W'=>(convert 22 9 (.slice (some ⟨bM,0,none⟩) 41 41)).run Tryz.prog W'=.ok (.string sV) W'∧CellAt w3.heap.size W' bB jX (.string sL)) W1:=⟨qV,qL⟩
   refine wpAnyH_more (S':=fun W'=>(convert 22 9 (.slice (some ⟨bM,0,none⟩) 41 41)).run Tryz.prog W'=.ok (.string sV) W'∧CellAt w3.heap.size W' bB jX (.string sL)) (fun _ h=>by obtain ⟨qV,qL⟩:=h;exact qV) _ _ _ _ ?_
   clear hS45
   refine kU0DrawAny 7 27 hS46 ?_
   clear hS46
   refine wpAnyH_listed (l':=#[true,true,true,true,true,true,true,true,true,true,false,false,false,false,false,false,false]) (by kernel_rfl) ?_
   revert hsL
   revert qL
   revert qD3
   revert qD2
   revert qD1
   revert qD0
   revert qB2
   revert qB1
   revert qB0
   revert hjX
   revert qV
   revert qM
   revert hN
   revert qr
   revert qo
   revert qd
   revert sL
   revert bD
   revert jX
   revert bB
   revert bM
   revert W1
   refine ?k1_3_5_8
   intro W0 bM jX bD qd qo qr hN qM qV hjX qD0 qD1 qD2 qD3
   have hS47:(fun W'=>(convert 22 9 (.slice (some ⟨bM,0,none⟩) 41 41)).run Tryz.prog W'=.ok (.string sV) W') W0:=qV
   refine wpAnyH_ready (rs:=[3,10]) (by kernel_rfl) (by simp) ?_
   refine AllReadyH.cons rfl (fun K hK=>?_) ?_
   refine step_alloc rfl 23 rfl #[.string ⟨#[]⟩,.string ⟨#[122,122]⟩,.string sV] 9 3 (by go_simp;(try rfl)) ?_
   intro bB W1 hbl hge hcl
   replace qd:=qd.below hbl
   replace qo:=ownE_g qo (gr_of_below g hbl) hlt
   replace qr:=gr_trans qr (gr_of_below g hbl)
   replace qM:=own_g qM (gr_of_below g hbl) hlt3
   replace qV:=HCV.out _ _ qM
   replace qD0:=CellAt.g qD0 (gr_of_below g hbl) hlt3
   replace qD1:=CellAt.g qD1 (gr_of_below g hbl) hlt3
   replace qD2:=CellAt.g qD2 (gr_of_below g hbl) hlt3
   replace qD3:=CellAt.g qD3 (gr_of_below g hbl) hlt3
   refine hK.out _ _ qV (fun hS48=>?_)
   clear hK K
   try simp only [Act.put,sA,sZ,sS]
   clear hS47
   have hwb:=Nat.le_trans hN hge
   have qB0:CellAt w3.heap.size W1 bB 0 (.string ⟨#[]⟩):=⟨by rw [hcl];rfl,hwb⟩
   have qB1:CellAt w3.heap.size W1 bB 1 (.string ⟨#[122,122]⟩):=⟨by rw [hcl];rfl,hwb⟩
   have qB2:CellAt w3.heap.size W1 bB 2 (.string sV):=⟨by rw [hcl];rfl,hwb⟩
   replace hN:w3.heap.size≤W1.heap.size:=Nat.le_trans hN hbl.size
   clear hcl hge hbl hwb
   clear W0
   have hjXi:(jX:Int) < 3:=by omega
   refine kU0DrawAny 6 26 hS48 ?_
   clear hjXi
   obtain ⟨sL,hsL,qL⟩:=pick3 qB0 qB1 qB2 hjX S41.out
   have hS49:(fun W'=>(convert 22 9 (.slice (some ⟨bM,0,none⟩) 41 41)).run Tryz.prog W'=.ok (.string sV) W'∧CellAt w3.heap.size W' bB jX (.string sL)) W1:=⟨qV,qL⟩
   refine wpAnyH_more (S':=fun W'=>(convert 22 9 (.slice (some ⟨bM,0,none⟩) 41 41)).run Tryz.prog W'=.ok (.string sV) W'∧CellAt w3.heap.size W' bB jX (.string sL)) (fun _ h=>by obtain ⟨qV,qL⟩:=h;exact qV) _ _ _ _ ?_
   clear hS48
   refine kU0DrawAny 7 27 hS49 ?_
   clear hS49
   refine wpAnyH_listed (l':=#[true,true,true,true,true,true,true,true,true,true,false,false,false,false,false,false,false]) (by kernel_rfl) ?_
   revert hsL
   revert qL
   revert qD3
   revert qD2
   revert qD1
   revert qD0
   revert qB2
   revert qB1
   revert qB0
   revert hjX
   revert qV
   revert qM
   revert hN
   revert qr
   revert qo
   revert qd
   revert sL
   revert bD
   revert jX
   revert bB
   revert bM
   revert W1
   refine ?k1_3_5_8
   refine AllReadyH.cons rfl (fun K hK=>?_) AllReadyH.nil
   go_simp
   refine (l1Below_any w0 _ g 4 qd (by omega) (by omega)).mono ?_
   rintro e W1 ⟨xx,rfl,hxx0,hxx1,hdc,hgg⟩
   obtain ⟨jY,rfl⟩:∃ j:Nat,xx=(j:Int):=⟨xx.toNat,by omega⟩
   have hjY:jY < 4:=by omega
   replace qd:=hdc
   replace qo:=ownE_g qo hgg hlt
   replace qr:=gr_trans qr hgg
   replace qM:=own_g qM hgg hlt3
   replace qV:=HCV.out _ _ qM
   replace qD0:=CellAt.g qD0 hgg hlt3
   replace qD1:=CellAt.g qD1 hgg hlt3
   replace qD2:=CellAt.g qD2 hgg hlt3
   replace qD3:=CellAt.g qD3 hgg hlt3
   refine hK.out _ _ qV (fun hS50=>?_)
   clear hK K
   try simp only [sA,sZ,sS]
   clear hS47
   replace hN:w3.heap.size≤W1.heap.size:=Nat.le_trans hN hgg.size
   clear hxx0 hxx1 hdc hgg
   clear W0
   have hjYi:(jY:Int) < 4:=by omega
   refine kU0DrawAny 11 31 hS50 ?_
   clear hjYi
   obtain ⟨nI,hnI0,hnI1,qI⟩:=pick4 qD0 qD1 qD2 qD3 hjY
   have hS51:(fun W'=>(convert 22 9 (.slice (some ⟨bM,0,none⟩) 41 41)).run Tryz.prog W'=.ok (.string sV) W'∧CellAt w3.heap.size W' bD jY (.int .i64 nI)) W1:=⟨qV,qI⟩
   refine wpAnyH_more (S':=fun W'=>(convert 22 9 (.slice (some ⟨bM,0,none⟩) 41 41)).run Tryz.prog W'=.ok (.string sV) W'∧CellAt w3.heap.size W' bD jY (.int .i64 nI)) (fun _ h=>by obtain ⟨qV,qI⟩:=h;exact qV) _ _ _ _ ?_
   clear hS50
   refine kU0DrawAny 12 32 hS51 ?_
   clear hS51
   refine wpAnyH_listed (l':=#[true,true,true,false,true,true,false,false,true,true,true,true,true,false,false,false,false]) (by kernel_rfl) ?_
   revert hnI1
   revert hnI0
   revert qI
   revert qD3
   revert qD2
   revert qD1
   revert qD0
   revert hjY
   revert hjX
   revert qV
   revert qM
   revert hN
   revert qr
   revert qo
   revert qd
   revert nI
   revert jY
   revert bD
   revert jX
   revert bM
   revert W1
   refine ?k1_5_8_10
   rotate_left 1
   intro W0 bM jX jY qd qo qr hN qM qV hjX hjY
   have hS52:(fun W'=>(convert 22 9 (.slice (some ⟨bM,0,none⟩) 41 41)).run Tryz.prog W'=.ok (.string sV) W') W0:=qV
   refine wpAnyH_ready (rs:=[3,8]) (by kernel_rfl) (by simp) ?_
   refine AllReadyH.cons rfl (fun K hK=>?_) ?_
   refine step_alloc rfl 23 rfl #[.string ⟨#[]⟩,.string ⟨#[122,122]⟩,.string sV] 9 3 (by go_simp;(try rfl)) ?_
   intro bB W1 hbl hge hcl
   replace qd:=qd.below hbl
   replace qo:=ownE_g qo (gr_of_below g hbl) hlt
   replace qr:=gr_trans qr (gr_of_below g hbl)
   replace qM:=own_g qM (gr_of_below g hbl) hlt3
   replace qV:=HCV.out _ _ qM
   refine hK.out _ _ qV (fun hS53=>?_)
   clear hK K
   try simp only [Act.put,sA,sZ,sS]
   clear hS52
   have hwb:=Nat.le_trans hN hge
   have qB0:CellAt w3.heap.size W1 bB 0 (.string ⟨#[]⟩):=⟨by rw [hcl];rfl,hwb⟩
   have qB1:CellAt w3.heap.size W1 bB 1 (.string ⟨#[122,122]⟩):=⟨by rw [hcl];rfl,hwb⟩
   have qB2:CellAt w3.heap.size W1 bB 2 (.string sV):=⟨by rw [hcl];rfl,hwb⟩
   replace hN:w3.heap.size≤W1.heap.size:=Nat.le_trans hN hbl.size
   clear hcl hge hbl hwb
   clear W0
   have hjXi:(jX:Int) < 3:=by omega
   refine kU0DrawAny 6 26 hS53 ?_
   clear hjXi
   obtain ⟨sL,hsL,qL⟩:=pick3 qB0 qB1 qB2 hjX S41.out
   have hS54:(fun W'=>(convert 22 9 (.slice (some ⟨bM,0,none⟩) 41 41)).run Tryz.prog W'=.ok (.string sV) W'∧CellAt w3.heap.size W' bB jX (.string sL)) W1:=⟨qV,qL⟩
   refine wpAnyH_more (S':=fun W'=>(convert 22 9 (.slice (some ⟨bM,0,none⟩) 41 41)).run Tryz.prog W'=.ok (.string sV) W'∧CellAt w3.heap.size W' bB jX (.string sL)) (fun _ h=>by obtain ⟨qV,qL⟩:=h;exact qV) _ _ _ _ ?_
   clear hS53
   refine kU0DrawAny 7 27 hS54 ?_
   clear hS54
   refine wpAnyH_listed (l':=#[true,true,true,true,true,true,true,true,false,true,true,false,false,false,false,false,false]) (by kernel_rfl) ?_
   revert hsL
   revert qL
   revert qB2
   revert qB1
   revert qB0
   revert hjY
   revert hjX
   revert qV
   revert qM
   revert hN
   revert qr
   revert qo
   revert qd
   revert sL
   revert jY
   revert jX
   revert bB
   revert bM
   revert W1
   refine ?k1_3_5_10
   refine AllReadyH.cons rfl (fun K hK=>?_) AllReadyH.nil
   refine step_alloc rfl 28 rfl #[.int .i64 0,.int .i64 1,.int .i64 1000000,.int .i64 1000001] 2 4 (by go_simp;(try rfl)) ?_
   intro bD W1 hbl hge hcl
   replace qd:=qd.below hbl
   replace qo:=ownE_g qo (gr_of_below g hbl) hlt
   replace qr:=gr_trans qr (gr_of_below g hbl)
   replace qM:=own_g qM (gr_of_below g hbl) hlt3
   replace qV:=HCV.out _ _ qM
   refine hK.out _ _ qV (fun hS55=>?_)
   clear hK K
   try simp only [Act.put,sA,sZ,sS]
   clear hS52
   have hwb:=Nat.le_trans hN hge
   have qD0:CellAt w3.heap.size W1 bD 0 (.int .i64 0):=⟨by rw [hcl];rfl,hwb⟩
   have qD1:CellAt w3.heap.size W1 bD 1 (.int .i64 1):=⟨by rw [hcl];rfl,hwb⟩
   have qD2:CellAt w3.heap.size W1 bD 2 (.int .i64 1000000):=⟨by rw [hcl];rfl,hwb⟩
   have qD3:CellAt w3.heap.size W1 bD 3 (.int .i64 1000001):=⟨by rw [hcl];rfl,hwb⟩
   replace hN:w3.heap.size≤W1.heap.size:=Nat.le_trans hN hbl.size
   clear hcl hge hbl hwb
   clear W0
   have hjYi:(jY:Int) < 4:=by omega
   refine kU0DrawAny 11 31 hS55 ?_
   clear hjYi
   obtain ⟨nI,hnI0,hnI1,qI⟩:=pick4 qD0 qD1 qD2 qD3 hjY
   have hS56:(fun W'=>(convert 22 9 (.slice (some ⟨bM,0,none⟩) 41 41)).run Tryz.prog W'=.ok (.string sV) W'∧CellAt w3.heap.size W' bD jY (.int .i64 nI)) W1:=⟨qV,qI⟩
   refine wpAnyH_more (S':=fun W'=>(convert 22 9 (.slice (some ⟨bM,0,none⟩) 41 41)).run Tryz.prog W'=.ok (.string sV) W'∧CellAt w3.heap.size W' bD jY (.int .i64 nI)) (fun _ h=>by obtain ⟨qV,qI⟩:=h;exact qV) _ _ _ _ ?_
   clear hS55
   refine kU0DrawAny 12 32 hS56 ?_
   clear hS56
   refine wpAnyH_listed (l':=#[true,true,true,false,true,true,false,false,true,true,true,true,true,false,false,false,false]) (by kernel_rfl) ?_
   revert hnI1
   revert hnI0
   revert qI
   revert qD3
   revert qD2
   revert qD1
   revert qD0
   revert hjY
   revert hjX
   revert qV
   revert qM
   revert hN
   revert qr
   revert qo
   revert qd
   revert nI
   revert jY
   revert bD
   revert jX
   revert bM
   revert W1
   refine ?k1_5_8_10
   intro W0 jX bD jY nI qd qo qr hN hjX hjY qD0 qD1 qD2 qD3 qI hnI0 hnI1
   have hS57:(fun W'=>CellAt w3.heap.size W' bD jY (.int .i64 nI)) W0:=qI
   refine wpAnyH_ready (rs:=[1]) (by kernel_rfl) (by simp) ?_
   refine AllReadyH.cons rfl (fun K hK=>?_) AllReadyH.nil
   refine step_makeB rfl 21 rfl _ _ rfl (41) _ (rfl) rfl rfl (by omega) w3.heap.size hN ?_
   intro bM W1 qM2 hbl
   replace qd:=qd.below hbl
   replace qo:=ownE_g qo (gr_of_below g hbl) hlt
   replace qr:=gr_trans qr (gr_of_below g hbl)
   replace qD0:=CellAt.g qD0 (gr_of_below g hbl) hlt3
   replace qD1:=CellAt.g qD1 (gr_of_below g hbl) hlt3
   replace qD2:=CellAt.g qD2 (gr_of_below g hbl) hlt3
   replace qD3:=CellAt.g qD3 (gr_of_below g hbl) hlt3
   replace qI:=CellAt.g qI (gr_of_below g hbl) hlt3
   refine hK.out _ _ qI (fun hS58=>?_)
   clear hK K
   try simp only [Act.put,sA,sZ,sS]
   clear hS57
   replace hN:w3.heap.size≤W1.heap.size:=Nat.le_trans hN hbl.size
   have qM:=qM2
   have qV:=HCV.out _ _ qM
   clear qM2 hbl
   have hS59:(fun W'=>(convert 22 9 (.slice (some ⟨bM,0,none⟩) 41 41)).run Tryz.prog W'=.ok (.string sV) W'∧CellAt w3.heap.size W' bD jY (.int .i64 nI)) W1:=⟨qV,qI⟩
   refine wpAnyH_more (S':=fun W'=>(convert 22 9 (.slice (some ⟨bM,0,none⟩) 41 41)).run Tryz.prog W'=.ok (.string sV) W'∧CellAt w3.heap.size W' bD jY (.int .i64 nI)) (fun _ h=>by obtain ⟨qV,qI⟩:=h;exact qI) _ _ _ _ ?_
   clear hS58
   clear W0
   refine kU0DrawAny 2 22 hS59 ?_
   clear hS59
   refine wpAnyH_listed (l':=#[true,true,true,false,true,true,false,false,true,true,true,true,true,false,false,false,false]) (by kernel_rfl) ?_
   revert hnI1
   revert hnI0
   revert qI
   revert qD3
   revert qD2
   revert qD1
   revert qD0
   revert hjY
   revert hjX
   revert qV
   revert qM
   revert hN
   revert qr
   revert qo
   revert qd
   revert nI
   revert jY
   revert bD
   revert jX
   revert bM
   revert W1
   refine ?k1_5_8_10
   intro W0 bM bB jX bD sL qd qo qr hN qM qV hjX qB0 qB1 qB2 qD0 qD1 qD2 qD3 qL hsL
   have hS60:(fun W'=>(convert 22 9 (.slice (some ⟨bM,0,none⟩) 41 41)).run Tryz.prog W'=.ok (.string sV) W'∧CellAt w3.heap.size W' bB jX (.string sL)) W0:=⟨qV,qL⟩
   refine wpAnyH_ready (rs:=[10]) (by kernel_rfl) (by simp) ?_
   refine AllReadyH.cons rfl (fun K hK=>?_) AllReadyH.nil
   go_simp
   refine (l1Below_any w0 _ g 4 qd (by omega) (by omega)).mono ?_
   rintro e W1 ⟨xx,rfl,hxx0,hxx1,hdc,hgg⟩
   obtain ⟨jY,rfl⟩:∃ j:Nat,xx=(j:Int):=⟨xx.toNat,by omega⟩
   have hjY:jY < 4:=by omega
   replace qd:=hdc
   replace qo:=ownE_g qo hgg hlt
   replace qr:=gr_trans qr hgg
   replace qM:=own_g qM hgg hlt3
   replace qV:=HCV.out _ _ qM
   replace qB0:=CellAt.g qB0 hgg hlt3
   replace qB1:=CellAt.g qB1 hgg hlt3
   replace qB2:=CellAt.g qB2 hgg hlt3
   replace qD0:=CellAt.g qD0 hgg hlt3
   replace qD1:=CellAt.g qD1 hgg hlt3
   replace qD2:=CellAt.g qD2 hgg hlt3
   replace qD3:=CellAt.g qD3 hgg hlt3
   replace qL:=CellAt.g qL hgg hlt3
   refine hK.out _ _ ⟨qV,qL⟩ (fun hS61=>?_)
   clear hK K
   try simp only [sA,sZ,sS]
   clear hS60
   replace hN:w3.heap.size≤W1.heap.size:=Nat.le_trans hN hgg.size
   clear hxx0 hxx1 hdc hgg
   clear W0
   have hjYi:(jY:Int) < 4:=by omega
   refine kU0DrawAny 11 31 hS61 ?_
   clear hjYi
   obtain ⟨nI,hnI0,hnI1,qI⟩:=pick4 qD0 qD1 qD2 qD3 hjY
   have hS62:(fun W'=>(convert 22 9 (.slice (some ⟨bM,0,none⟩) 41 41)).run Tryz.prog W'=.ok (.string sV) W'∧CellAt w3.heap.size W' bB jX (.string sL)∧CellAt w3.heap.size W' bD jY (.int .i64 nI)) W1:=⟨qV,qL,qI⟩
   refine wpAnyH_more (S':=fun W'=>(convert 22 9 (.slice (some ⟨bM,0,none⟩) 41 41)).run Tryz.prog W'=.ok (.string sV) W'∧CellAt w3.heap.size W' bB jX (.string sL)∧CellAt w3.heap.size W' bD jY (.int .i64 nI)) (fun _ h=>by obtain ⟨qV,qL,qI⟩:=h;exact ⟨qV,qL⟩) _ _ _ _ ?_
   clear hS61
   refine kU0DrawAny 12 32 hS62 ?_
   clear hS62
   refine wpAnyH_listed (l':=#[true,true,true,true,true,true,true,true,true,true,true,true,true,false,false,false,false]) (by kernel_rfl) ?_
   revert hnI1
   revert hnI0
   revert hsL
   revert qI
   revert qL
   revert qD3
   revert qD2
   revert qD1
   revert qD0
   revert qB2
   revert qB1
   revert qB0
   revert hjY
   revert hjX
   revert qV
   revert qM
   revert hN
   revert qr
   revert qo
   revert qd
   revert nI
   revert sL
   revert jY
   revert bD
   revert jX
   revert bB
   revert bM
   revert W1
   refine ?k1_3_5_8_10
   rotate_left 1
   intro W0 bM bB jX jY sL qd qo qr hN qM qV hjX hjY qB0 qB1 qB2 qL hsL
   have hS63:(fun W'=>(convert 22 9 (.slice (some ⟨bM,0,none⟩) 41 41)).run Tryz.prog W'=.ok (.string sV) W'∧CellAt w3.heap.size W' bB jX (.string sL)) W0:=⟨qV,qL⟩
   refine wpAnyH_ready (rs:=[8]) (by kernel_rfl) (by simp) ?_
   refine AllReadyH.cons rfl (fun K hK=>?_) AllReadyH.nil
   refine step_alloc rfl 28 rfl #[.int .i64 0,.int .i64 1,.int .i64 1000000,.int .i64 1000001] 2 4 (by go_simp;(try rfl)) ?_
   intro bD W1 hbl hge hcl
   replace qd:=qd.below hbl
   replace qo:=ownE_g qo (gr_of_below g hbl) hlt
   replace qr:=gr_trans qr (gr_of_below g hbl)
   replace qM:=own_g qM (gr_of_below g hbl) hlt3
   replace qV:=HCV.out _ _ qM
   replace qB0:=CellAt.g qB0 (gr_of_below g hbl) hlt3
   replace qB1:=CellAt.g qB1 (gr_of_below g hbl) hlt3
   replace qB2:=CellAt.g qB2 (gr_of_below g hbl) hlt3
   replace qL:=CellAt.g qL (gr_of_below g hbl) hlt3
   refine hK.out _ _ ⟨qV,qL⟩ (fun hS64=>?_)
   clear hK K
   try simp only [Act.put,sA,sZ,sS]
   clear hS63
   have hwb:=Nat.le_trans hN hge
   have qD0:CellAt w3.heap.size W1 bD 0 (.int .i64 0):=⟨by rw [hcl];rfl,hwb⟩
   have qD1:CellAt w3.heap.size W1 bD 1 (.int .i64 1):=⟨by rw [hcl];rfl,hwb⟩
   have qD2:CellAt w3.heap.size W1 bD 2 (.int .i64 1000000):=⟨by rw [hcl];rfl,hwb⟩
   have qD3:CellAt w3.heap.size W1 bD 3 (.int .i64 1000001):=⟨by rw [hcl];rfl,hwb⟩
   replace hN:w3.heap.size≤W1.heap.size:=Nat.le_trans hN hbl.size
   clear hcl hge hbl hwb
   clear W0
   have hjYi:(jY:Int) < 4:=by omega
   refine kU0DrawAny 11 31 hS64 ?_
   clear hjYi
   obtain ⟨nI,hnI0,hnI1,qI⟩:=pick4 qD0 qD1 qD2 qD3 hjY
   have hS65:(fun W'=>(convert 22 9 (.slice (some ⟨bM,0,none⟩) 41 41)).run Tryz.prog W'=.ok (.string sV) W'∧CellAt w3.heap.size W' bB jX (.string sL)∧CellAt w3.heap.size W' bD jY (.int .i64 nI)) W1:=⟨qV,qL,qI⟩
   refine wpAnyH_more (S':=fun W'=>(convert 22 9 (.slice (some ⟨bM,0,none⟩) 41 41)).run Tryz.prog W'=.ok (.string sV) W'∧CellAt w3.heap.size W' bB jX (.string sL)∧CellAt w3.heap.size W' bD jY (.int .i64 nI)) (fun _ h=>by obtain ⟨qV,qL,qI⟩:=h;exact ⟨qV,qL⟩) _ _ _ _ ?_
   clear hS64
   refine kU0DrawAny 12 32 hS65 ?_
   clear hS65
   refine wpAnyH_listed (l':=#[true,true,true,true,true,true,true,true,true,true,true,true,true,false,false,false,false]) (by kernel_rfl) ?_
   revert hnI1
   revert hnI0
   revert hsL
   revert qI
   revert qL
   revert qD3
   revert qD2
   revert qD1
   revert qD0
   revert qB2
   revert qB1
   revert qB0
   revert hjY
   revert hjX
   revert qV
   revert qM
   revert hN
   revert qr
   revert qo
   revert qd
   revert nI
   revert sL
   revert jY
   revert bD
   revert jX
   revert bB
   revert bM
   revert W1
   refine ?k1_3_5_8_10
   intro W0 bM jX bD jY nI qd qo qr hN qM qV hjX hjY qD0 qD1 qD2 qD3 qI hnI0 hnI1
   have hS66:(fun W'=>(convert 22 9 (.slice (some ⟨bM,0,none⟩) 41 41)).run Tryz.prog W'=.ok (.string sV) W'∧CellAt w3.heap.size W' bD jY (.int .i64 nI)) W0:=⟨qV,qI⟩
   refine wpAnyH_ready (rs:=[3]) (by kernel_rfl) (by simp) ?_
   refine AllReadyH.cons rfl (fun K hK=>?_) AllReadyH.nil
   refine step_alloc rfl 23 rfl #[.string ⟨#[]⟩,.string ⟨#[122,122]⟩,.string sV] 9 3 (by go_simp;(try rfl)) ?_
   intro bB W1 hbl hge hcl
   replace qd:=qd.below hbl
   replace qo:=ownE_g qo (gr_of_below g hbl) hlt
   replace qr:=gr_trans qr (gr_of_below g hbl)
   replace qM:=own_g qM (gr_of_below g hbl) hlt3
   replace qV:=HCV.out _ _ qM
   replace qD0:=CellAt.g qD0 (gr_of_below g hbl) hlt3
   replace qD1:=CellAt.g qD1 (gr_of_below g hbl) hlt3
   replace qD2:=CellAt.g qD2 (gr_of_below g hbl) hlt3
   replace qD3:=CellAt.g qD3 (gr_of_below g hbl) hlt3
   replace qI:=CellAt.g qI (gr_of_below g hbl) hlt3
   refine hK.out _ _ ⟨qV,qI⟩ (fun hS67=>?_)
   clear hK K
   try simp only [Act.put,sA,sZ,sS]
   clear hS66
   have hwb:=Nat.le_trans hN hge
   have qB0:CellAt w3.heap.size W1 bB 0 (.string ⟨#[]⟩):=⟨by rw [hcl];rfl,hwb⟩
   have qB1:CellAt w3.heap.size W1 bB 1 (.string ⟨#[122,122]⟩):=⟨by rw [hcl];rfl,hwb⟩
   have qB2:CellAt w3.heap.size W1 bB 2 (.string sV):=⟨by rw [hcl];rfl,hwb⟩
   replace hN:w3.heap.size≤W1.heap.size:=Nat.le_trans hN hbl.size
   clear hcl hge hbl hwb
   clear W0
   have hjXi:(jX:Int) < 3:=by omega
   refine kU0DrawAny 6 26 hS67 ?_
   clear hjXi
   obtain ⟨sL,hsL,qL⟩:=pick3 qB0 qB1 qB2 hjX S41.out
   have hS68:(fun W'=>(convert 22 9 (.slice (some ⟨bM,0,none⟩) 41 41)).run Tryz.prog W'=.ok (.string sV) W'∧CellAt w3.heap.size W' bB jX (.string sL)∧CellAt w3.heap.size W' bD jY (.int .i64 nI)) W1:=⟨qV,qL,qI⟩
   refine wpAnyH_more (S':=fun W'=>(convert 22 9 (.slice (some ⟨bM,0,none⟩) 41 41)).run Tryz.prog W'=.ok (.string sV) W'∧CellAt w3.heap.size W' bB jX (.string sL)∧CellAt w3.heap.size W' bD jY (.int .i64 nI)) (fun _ h=>by obtain ⟨qV,qL,qI⟩:=h;exact ⟨qV,qI⟩) _ _ _ _ ?_
   clear hS67
   refine kU0DrawAny 7 27 hS68 ?_
   clear hS68
   refine wpAnyH_listed (l':=#[true,true,true,true,true,true,true,true,true,true,true,true,true,false,false,false,false]) (by kernel_rfl) ?_
   revert hnI1
   revert hnI0
   revert hsL
   revert qI
   revert qL
   revert qD3
   revert qD2
   revert qD1
   revert qD0
   revert qB2
   revert qB1
   revert qB0
   revert hjY
   revert hjX
   revert qV
   revert qM
   revert hN
   revert qr
   revert qo
   revert qd
   revert nI
   revert sL
   revert jY
   revert bD
   revert jX
   revert bB
   revert bM
   revert W1
   refine ?k1_3_5_8_10
   intro W0 bM bB jX bD jY sL nI qd qo qr hN qM qV hjX hjY qB0 qB1 qB2 qD0 qD1 qD2 qD3 qL qI hsL hnI0 hnI1
   have hS69:(fun W'=>(convert 22 9 (.slice (some ⟨bM,0,none⟩) 41 41)).run Tryz.prog W'=.ok (.string sV) W'∧CellAt w3.heap.size W' bB jX (.string sL)∧CellAt w3.heap.size W' bD jY (.int .i64 nI)) W0:=⟨qV,qL,qI⟩
   refine kU0DrawAny 13 33 hS69 ?_
   refine wpAnyH_ready (rs:=[14]) (by kernel_rfl) (by simp) ?_
   refine AllReadyH.cons rfl (fun K hK=>?_) AllReadyH.nil
   refine step_alloc rfl 34 rfl #[.string (⟨sL,⟨#[]⟩,nI,false⟩:Ent).key,.string (⟨sL,⟨#[]⟩,nI,false⟩:Ent).val,.int .i64 (⟨sL,⟨#[]⟩,nI,false⟩:Ent).seq,.bool (⟨sL,⟨#[]⟩,nI,false⟩:Ent).gone] 50 1 (by go_simp;(try rfl)) ?_
   intro bP W1 hbl hge hcl
   have hPe:EntAt W1 bP 0 (⟨sL,⟨#[]⟩,nI,false⟩:Ent):=⟨by rw [hcl];rfl,by rw [hcl];rfl,by rw [hcl];rfl,by rw [hcl];rfl⟩
   replace qd:=qd.below hbl
   replace qo:=ownE_g qo (gr_of_below g hbl) hlt
   replace qr:=gr_trans qr (gr_of_below g hbl)
   replace qM:=own_g qM (gr_of_below g hbl) hlt3
   replace qV:=HCV.out _ _ qM
   replace qB0:=CellAt.g qB0 (gr_of_below g hbl) hlt3
   replace qB1:=CellAt.g qB1 (gr_of_below g hbl) hlt3
   replace qB2:=CellAt.g qB2 (gr_of_below g hbl) hlt3
   replace qD0:=CellAt.g qD0 (gr_of_below g hbl) hlt3
   replace qD1:=CellAt.g qD1 (gr_of_below g hbl) hlt3
   replace qD2:=CellAt.g qD2 (gr_of_below g hbl) hlt3
   replace qD3:=CellAt.g qD3 (gr_of_below g hbl) hlt3
   replace qL:=CellAt.g qL (gr_of_below g hbl) hlt3
   replace qI:=CellAt.g qI (gr_of_below g hbl) hlt3
   refine hK.out _ _ ⟨qV,qL,qI⟩ (fun hS70=>?_)
   clear hK K
   try simp only [Act.put,sA,sZ,sS]
   refine wpAnyH_ready (rs:=[15]) (by kernel_rfl) (by simp) ?_
   refine AllReadyH.cons rfl (fun K hK=>?_) AllReadyH.nil
   refine step_append_ents rfl 35 rfl _ _ rfl w.heap.size vL (.slice (some ⟨bP,0,none⟩) 1 1) es [(⟨sL,⟨#[]⟩,nI,false⟩:Ent)] rfl rfl qo (rdE_oneS hPe) (by simp;omega) qr.size ?_
   intro v5 W5' ho5 hg5
   have hc5:=qd.grow hg5 (fun k hk=>by have:=(World.ownsRow.lt qo k hk).1;omega)
   have hgr5:=gr_young qr hg5 (fun k hk=>(World.ownsRow.lt qo k hk).1)
   replace qM:=own_app qM hg5 hvb
   replace qV:=HCV.out _ _ qM
   replace qB0:=CellAt.app qB0 hg5 hvb
   replace qB1:=CellAt.app qB1 hg5 hvb
   replace qB2:=CellAt.app qB2 hg5 hvb
   replace qD0:=CellAt.app qD0 hg5 hvb
   replace qD1:=CellAt.app qD1 hg5 hvb
   replace qD2:=CellAt.app qD2 hg5 hvb
   replace qD3:=CellAt.app qD3 hg5 hvb
   replace qL:=CellAt.app qL hg5 hvb
   replace qI:=CellAt.app qI hg5 hvb
   refine hK.out _ _ ⟨qV,qL,qI⟩ (fun hS71=>?_)
   clear hK K
   try simp only [Act.put,sA,sZ,sS]
   refine kU0DrawAny 16 3 hS71 ?_
   refine wpAnyH_done (by kernel_rfl) ?_ _
   refine NoPanic.normal ?_
   go_wp2
   go_ret
   exact ⟨_,_,rfl,ho5,by rw [List.length_append];simp;omega,small_app HS.out (small_mk hsL (by decide) (by omega) (by omega)),hc5,hgr5⟩
  ·skip
   go_wp2_with fail
   refine wp_region_noPanic ?_
   refine wp_region_held_drew (S:=fun _=>True) (by kernel_rfl) trivial (fun h0=>?_)
   have qd:DCur w0 w3.drew g:=hc3.drewN 1
   have qo:OwnE w3.drew w.heap.size vL es:=ho3.drewN 1
   have qr:w.grownBy w3.drew (some g):=gr_drewN hgr3 1
   have hvb:∀ k,vL.ownBlock=some k→k < w3.heap.size:=ownE_lt ho3
   have hlt3:g < w3.heap.size:=hc3.lt
   have hN:w3.heap.size≤w3.drew.heap.size:=Nat.le_refl _
   clear ho3 hc3 hgr3
   revert qd qo qr hN
   generalize w3.drew=W0
   intro qd qo qr hN
   refine kU0DrawAny 0 38 h0 ?_
   refine kU0DrawAny 1 39 h0 ?_
   refine kU0DrawAny 6 44 h0 ?_
   refine wpAnyH_ready (rs:=[2]) (by kernel_rfl) (by simp) ?_
   refine AllReadyH.cons rfl (fun K hK=>?_) AllReadyH.nil
   go_simp
   refine (l1Below_any w0 _ g 2 qd (by omega) (by omega)).mono ?_
   rintro e W1 ⟨xx,rfl,hxx0,hxx1,hdc,hgg⟩
   obtain ⟨jY,rfl⟩:∃ j:Nat,xx=(j:Int):=⟨xx.toNat,by omega⟩
   have hjY:jY < 2:=by omega
   replace qd:=hdc
   replace qo:=ownE_g qo hgg hlt
   replace qr:=gr_trans qr hgg
   refine hK.out _ _ trivial (fun hS72=>?_)
   clear hK K
   try simp only [Act.put,sA,sZ,sS]
   replace hN:w3.heap.size≤W1.heap.size:=Nat.le_trans hN hgg.size
   clear hxx0 hxx1 hdc hgg
   obtain ⟨sV,hsV⟩:∃ sV:ByteArray,sV=⟨(List.replicate (200+jY) (0:UInt8)).toArray⟩:=⟨_,rfl⟩
   have S41:Hid (sV.size≤1000):=by rw [hsV];show (List.replicate (200+jY) (0:UInt8)).toArray.size≤1000;simp;omega
   have HCV:Hid (∀ W u,Own W w3.heap.size u (List.replicate (200+jY) 0)→(convert 22 9 u).run Tryz.prog W=.ok (.string sV) W):=fun W u h=>by rw [hsV];exact conv_own h
   clear hsV
   have hwrY:IntKind.i64.wrap (200+(jY:Int))=200+(jY:Int):=by rw [IntKind.wrap_i64];omega
   refine kU0DrawAny 3 41 hS72 ?_
   refine wpAnyH_ready (rs:=[4,7]) (by kernel_rfl) (by simp) ?_
   refine AllReadyH.cons rfl (fun K hK=>?_) ?_
   ·skip
    refine step_makeB rfl 42 rfl _ _ rfl (200+jY) _ (by omega) rfl rfl (by omega) w3.heap.size hN ?_
    intro bM W2 qM2 hbl
    replace qd:=qd.below hbl
    replace qo:=ownE_g qo (gr_of_below g hbl) hlt
    replace qr:=gr_trans qr (gr_of_below g hbl)
    refine hK.out _ _ trivial (fun hS73=>?_)
    clear hK K
    try simp only [Act.put,sA,sZ,sS]
    replace hN:w3.heap.size≤W2.heap.size:=Nat.le_trans hN hbl.size
    have qM:=qM2
    have qV:=HCV.out _ _ qM
    clear qM2 hbl
    have hS74:(fun W'=>(convert 22 9 (.slice (some ⟨bM,0,none⟩) (200+jY) (200+jY))).run Tryz.prog W'=.ok (.string sV) W') W2:=qV
    refine wpAnyH_more (S':=fun W'=>(convert 22 9 (.slice (some ⟨bM,0,none⟩) (200+jY) (200+jY))).run Tryz.prog W'=.ok (.string sV) W') (fun _ _=>trivial) _ _ _ _ ?_
    refine kU0DrawAny 5 43 hS74 ?_
    refine wpAnyH_ready (rs:=[7]) (by kernel_rfl) (by simp) ?_
    refine AllReadyH.cons rfl (fun K hK=>?_) AllReadyH.nil
    go_simp
    refine (l1Once_any w0 _ g 2 qd (by omega) (by omega)).mono ?_
    rintro e W3 ⟨bb,rfl,hdc,hgg⟩
    replace qd:=hdc
    replace qo:=ownE_g qo hgg hlt
    replace qr:=gr_trans qr hgg
    replace qM:=own_g qM hgg hlt3
    replace qV:=HCV.out _ _ qM
    refine hK.out _ _ qV (fun hS75=>?_)
    clear hK K
    try simp only [Act.put,sA,sZ,sS]
    replace hN:w3.heap.size≤W3.heap.size:=Nat.le_trans hN hgg.size
    clear hdc hgg
    refine kU0DrawAny 8 46 hS75 ?_
    refine wpAnyH_ready (rs:=[9]) (by kernel_rfl) (by simp) ?_
    refine AllReadyH.cons rfl (fun K hK=>?_) AllReadyH.nil
    refine step_alloc rfl 47 rfl #[.string (⟨⟨#[122,122]⟩,sV,1,bb⟩:Ent).key,.string (⟨⟨#[122,122]⟩,sV,1,bb⟩:Ent).val,.int .i64 (⟨⟨#[122,122]⟩,sV,1,bb⟩:Ent).seq,.bool (⟨⟨#[122,122]⟩,sV,1,bb⟩:Ent).gone] 50 1 (by go_simp;(try rfl)) ?_
    intro bP W4 hbl hge hcl
    have hPe:EntAt W4 bP 0 (⟨⟨#[122,122]⟩,sV,1,bb⟩:Ent):=⟨by rw [hcl];rfl,by rw [hcl];rfl,by rw [hcl];rfl,by rw [hcl];rfl⟩
    replace qd:=qd.below hbl
    replace qo:=ownE_g qo (gr_of_below g hbl) hlt
    replace qr:=gr_trans qr (gr_of_below g hbl)
    replace qM:=own_g qM (gr_of_below g hbl) hlt3
    replace qV:=HCV.out _ _ qM
    refine hK.out _ _ qV (fun hS76=>?_)
    clear hK K
    try simp only [Act.put,sA,sZ,sS]
    refine wpAnyH_ready (rs:=[10]) (by kernel_rfl) (by simp) ?_
    refine AllReadyH.cons rfl (fun K hK=>?_) AllReadyH.nil
    refine step_append_ents rfl 48 rfl _ _ rfl w.heap.size vL (.slice (some ⟨bP,0,none⟩) 1 1) es [(⟨⟨#[122,122]⟩,sV,1,bb⟩:Ent)] rfl rfl qo (rdE_oneS hPe) (by simp;omega) qr.size ?_
    intro v5 W5' ho5 hg5
    have hc5:=qd.grow hg5 (fun k hk=>by have:=(World.ownsRow.lt qo k hk).1;omega)
    have hgr5:=gr_young qr hg5 (fun k hk=>(World.ownsRow.lt qo k hk).1)
    replace qM:=own_app qM hg5 hvb
    replace qV:=HCV.out _ _ qM
    refine hK.out _ _ qV (fun hS77=>?_)
    clear hK K
    try simp only [Act.put,sA,sZ,sS]
    refine kU0DrawAny 11 3 hS77 ?_
    refine wpAnyH_done (by kernel_rfl) ?_ _
    refine NoPanic.normal ?_
    go_wp2
    go_ret
    exact ⟨_,_,rfl,ho5,by rw [List.length_append];simp;omega,small_app HS.out (small_mk (by decide) S41.out (by omega) (by omega)),hc5,hgr5⟩
   refine AllReadyH.cons rfl (fun K hK=>?_) AllReadyH.nil
   go_simp
   refine (l1Once_any w0 _ g 2 qd (by omega) (by omega)).mono ?_
   rintro e W2 ⟨bb,rfl,hdc,hgg⟩
   replace qd:=hdc
   replace qo:=ownE_g qo hgg hlt
   replace qr:=gr_trans qr hgg
   refine hK.out _ _ trivial (fun hS78=>?_)
   clear hK K
   try simp only [Act.put,sA,sZ,sS]
   replace hN:w3.heap.size≤W2.heap.size:=Nat.le_trans hN hgg.size
   clear hdc hgg
   refine wpAnyH_ready (rs:=[4]) (by kernel_rfl) (by simp) ?_
   refine AllReadyH.cons rfl (fun K hK=>?_) AllReadyH.nil
   refine step_makeB rfl 42 rfl _ _ rfl (200+jY) _ (by omega) rfl rfl (by omega) w3.heap.size hN ?_
   intro bM W3 qM2 hbl
   replace qd:=qd.below hbl
   replace qo:=ownE_g qo (gr_of_below g hbl) hlt
   replace qr:=gr_trans qr (gr_of_below g hbl)
   refine hK.out _ _ trivial (fun hS79=>?_)
   clear hK K
   try simp only [Act.put,sA,sZ,sS]
   replace hN:w3.heap.size≤W3.heap.size:=Nat.le_trans hN hbl.size
   have qM:=qM2
   have qV:=HCV.out _ _ qM
   clear qM2 hbl
   have hS80:(fun W'=>(convert 22 9 (.slice (some ⟨bM,0,none⟩) (200+jY) (200+jY))).run Tryz.prog W'=.ok (.string sV) W') W3:=qV
   refine wpAnyH_more (S':=fun W'=>(convert 22 9 (.slice (some ⟨bM,0,none⟩) (200+jY) (200+jY))).run Tryz.prog W'=.ok (.string sV) W') (fun _ _=>trivial) _ _ _ _ ?_
   refine kU0DrawAny 5 43 hS80 ?_
   refine kU0DrawAny 8 46 hS80 ?_
   refine wpAnyH_ready (rs:=[9]) (by kernel_rfl) (by simp) ?_
   refine AllReadyH.cons rfl (fun K hK=>?_) AllReadyH.nil
   refine step_alloc rfl 47 rfl #[.string (⟨⟨#[122,122]⟩,sV,1,bb⟩:Ent).key,.string (⟨⟨#[122,122]⟩,sV,1,bb⟩:Ent).val,.int .i64 (⟨⟨#[122,122]⟩,sV,1,bb⟩:Ent).seq,.bool (⟨⟨#[122,122]⟩,sV,1,bb⟩:Ent).gone] 50 1 (by go_simp;(try rfl)) ?_
   intro bP W4 hbl hge hcl
   have hPe:EntAt W4 bP 0 (⟨⟨#[122,122]⟩,sV,1,bb⟩:Ent):=⟨by rw [hcl];rfl,by rw [hcl];rfl,by rw [hcl];rfl,by rw [hcl];rfl⟩
   replace qd:=qd.below hbl
   replace qo:=ownE_g qo (gr_of_below g hbl) hlt
   replace qr:=gr_trans qr (gr_of_below g hbl)
   replace qM:=own_g qM (gr_of_below g hbl) hlt3
   replace qV:=HCV.out _ _ qM
   refine hK.out _ _ qV (fun hS81=>?_)
   clear hK K
   try simp only [Act.put,sA,sZ,sS]
   refine wpAnyH_ready (rs:=[10]) (by kernel_rfl) (by simp) ?_
   refine AllReadyH.cons rfl (fun K hK=>?_) AllReadyH.nil
   refine step_append_ents rfl 48 rfl _ _ rfl w.heap.size vL (.slice (some ⟨bP,0,none⟩) 1 1) es [(⟨⟨#[122,122]⟩,sV,1,bb⟩:Ent)] rfl rfl qo (rdE_oneS hPe) (by simp;omega) qr.size ?_
   intro v5 W5' ho5 hg5
   have hc5:=qd.grow hg5 (fun k hk=>by have:=(World.ownsRow.lt qo k hk).1;omega)
   have hgr5:=gr_young qr hg5 (fun k hk=>(World.ownsRow.lt qo k hk).1)
   replace qM:=own_app qM hg5 hvb
   replace qV:=HCV.out _ _ qM
   refine hK.out _ _ qV (fun hS82=>?_)
   clear hK K
   try simp only [Act.put,sA,sZ,sS]
   refine kU0DrawAny 11 3 hS82 ?_
   refine wpAnyH_done (by kernel_rfl) ?_ _
   refine NoPanic.normal ?_
   go_wp2
   go_ret
   exact ⟨_,_,rfl,ho5,by rw [List.length_append];simp;omega,small_app HS.out (small_mk (by decide) S41.out (by omega) (by omega)),hc5,hgr5⟩
  ·skip
   have hst:=ownE_none w3
   have hdc:=hc3.alloc (.cells #[] 50)
   have hgr:=gr_alloc hgr3 (.cells #[] 50)
   clear ho3 hc3 hgr3
   go_wp2
   go_loopw [3,4] (fun o i wr=>∃ (k:Nat) (ys:List Ent),i=.int .i64 k∧k≤301∧ys.length≤k∧OwnE wr w.heap.size o ys∧Hid (∀ y∈ys,Small y)∧DCur w0 wr g∧w.grownBy wr (some g)) (fun _ i _=>302 - (intOf i).toNat)
   case atStart=>exact ⟨0,[],rfl,by omega,Nat.le_refl _,hst.mono hs3,(fun y hy=>by cases hy),hdc,hgr⟩
   case round =>
    obtain ⟨k,ys,rfl,hk,hyl,ho,HY,hc,hgw⟩:=hrel
    clear hst hdc hgr
    go_wp2_with fail
    refine (l1Below_any w0 _ g 2 hc (by omega) (by omega)).mono ?_
    rintro e w4 ⟨y,rfl,hy0,hy1,hc4,hg4⟩
    have ho4:=ownE_g ho hg4 hlt
    have hgr4:=gr_trans hgw hg4
    have hs4:=hgr4.size
    clear ho hc hgw hg4
    by_cases hlt2:(k:Int) < 300+y
    ·have HZ:Hid (Small ⟨⟨#[107]⟩,⟨#[]⟩,1000 - (k:Int),false⟩):=by
      refine ⟨?_,?_,?_,?_⟩
      ·show (1:Nat)≤1000;omega
      ·show (0:Nat)≤1000;omega
      ·show (0:Int)≤1000 - (k:Int);omega
      ·show 1000 - (k:Int)≤1000000000;omega
     go_wp2_with (at_builtin;(refine wpList_append_ents rfl _ _ rfl w.heap.size _ _ ys [⟨⟨#[107]⟩,⟨#[]⟩,1000 - (k:Int),false⟩] rfl rfl ?d1 ?d2 ?d3 ?d4 ?_))
     case d1=>exact ho4.below (below1 _ _)
     case d2=>exact rdE_oneS (entAt_boxS _ ⟨⟨#[107]⟩,⟨#[]⟩,1000 - (k:Int),false⟩ _)
     case d3=>simp;omega
     case d4=>simp;omega
     intro v5 w5 ho5 hg5
     have hc5:=(hc4.alloc (.cells #[.string ⟨#[107]⟩,.string ⟨#[]⟩,.int .i64 (1000 - (k:Int)),.bool false] 50)).grow hg5 (fun k hk=>by have:=(World.ownsRow.lt ho4 k hk).1;omega)
     have hgr5:=gr_young (gr_alloc hgr4 _) hg5 (fun k hk=>(World.ownsRow.lt ho4 k hk).1)
     have HY2:Hid (∀ z∈ys++[⟨⟨#[107]⟩,⟨#[]⟩,1000 - (k:Int),false⟩],Small z):=small_app HY.out HZ.out
     clear ho4 hc4 hgr4 hg5
     go_wp2
     go_roundw
     case rel=>exact ⟨k+1,_,by go_num,by omega,by rw [List.length_append];simp;omega,ho5,HY2,hc5,hgr5⟩
     case measure=>simp [intOf];omega
    ·go_wp2
     go_ret
     exact ⟨_,ys,rfl,ho4,by omega,HY.out,hc4,hgr4⟩
end Go.Proofs.YtmlmlemiidedcaaGreat
