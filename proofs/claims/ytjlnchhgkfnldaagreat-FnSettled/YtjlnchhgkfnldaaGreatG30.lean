import Derived.Test.YtjlnchhgkfnldaaGreatG29
import Derived.Lib.SliceRun
import Derived.ChangeKeysEq
import Derived.Deep.RegionHeld3
namespace Go.Proofs.YtjlnchhgkfnldaaGreat
set_option maxHeartbeats 16000000
set_option maxRecDepth 100000
open Go.RowKit
def MV(M:Nat):Value:=.agg #[.int .u64 (mw M 0:Int),.int .u64 (mw M 1:Int),.int .u64 (mw M 2:Int),.int .u64 (mw M 3:Int)]
def MAt(w:World)(b:Nat)(M:Nat):Prop :=
 w.cell? ⟨b,0,none⟩=some (.int .u64 (mw M 0:Int))∧w.cell? ⟨b,1,none⟩=some (.int .u64 (mw M 1:Int))∧w.cell? ⟨b,2,none⟩=some (.int .u64 (mw M 2:Int))∧w.cell? ⟨b,3,none⟩=some (.int .u64 (mw M 3:Int))
theorem zlH(n:Nat)(h:n<18446744073709551616):IntKind.u64.wrap (n:Int)=(n:Int):=by
 show ((n:Int) % 18446744073709551616)=n;omega
theorem ziv(a r:Nat)(ha:a<18446744073709551616)(hr:r<64):bits .or .u64 (a:Int) (IntKind.u64.wrap (2 ^ r))=((a ||| 2 ^ r:Nat):Int):=by
 have h1:(2:Nat) ^ r<2 ^ 64:=Nat.pow_lt_pow_right (by omega) hr;have h2:a ||| 2 ^ r<2 ^ 64:=Nat.or_lt_two_pow ha h1
 have e1:IntKind.u64.wrap (2 ^ r)=((2 ^ r:Nat):Int):=by
  have:((2:Int) ^ r)=((2 ^ r:Nat):Int):=by simp
  rw[this];exact zlH _ h1
 rw[e1];show IntKind.u64.wrap (((BitVec.ofInt 64 (a:Int) ||| BitVec.ofInt 64 ((2 ^ r:Nat):Int)).toNat:Nat):Int)=_;rw[BitVec.ofInt_natCast,BitVec.ofInt_natCast,BitVec.toNat_or,BitVec.toNat_ofNat,BitVec.toNat_ofNat,Nat.mod_eq_of_lt ha,Nat.mod_eq_of_lt h1];exact zlH _ h2
theorem zfR(M n:Nat)(w:World)(hn:n<256) :
 Calls Tryz.prog 129 #[MV M,.int .i64 n] w fun e w'=>e=.returned (MV (mset M n))∧Below w.heap.size w w':=by
 have hq:((n:Int)).tdiv 64=((n / 64:Nat):Int):=by rw[Int.tdiv_eq_ediv_of_nonneg (by omega)];omega
 have hr:((n:Int)).tmod 64=((n % 64:Nat):Int):=by rw[Int.tmod_eq_emod_of_nonneg (by omega)];omega
 have h64:n % 64<64:=by omega
 obtain⟨j,hj⟩:∃ j,j=n / 64:=⟨_,rfl⟩;have hat:mw (mset M n) j=mw M j ||| 2 ^ (n % 64):=by rw[hj];exact zpA
 have hne:∀ i,i≠j→mw (mset M n) i=mw M i:=fun i hi=>zoJ (by omega)
 have hj4:j<4:=by omega
 rw[← hj] at hq;unfold MV;have l0:=mw_lt M 0;have l1:=mw_lt M 1;have l2:=mw_lt M 2;have l3:=mw_lt M 3;obtain⟨r,hrr⟩:∃ r,r=n % 64:=⟨_,rfl⟩;rw[← hrr] at hr h64 hat;clear hrr hj;generalize (n:Int)=N at hq hr ⊢;have hjc:j=0∨j=1∨j=2∨j=3:=by omega
 rcases hjc with rfl | rfl | rfl | rfl
 ·rw[hat,hne 1 (by omega),hne 2 (by omega),hne 3 (by omega)];clear hat hne;generalize mw M 0=a at *;generalize mw M 1=b at *;generalize mw M 2=c at *;generalize mw M 3=d at *;have hB:=ziv a r l0 h64;generalize a ||| 2 ^ r=x at hB ⊢
  go_enter Tryz.func129,Tryz.ntmps129
  go_wp2;go_region
  go_wp2;exact bodyPost_ret (v:=.agg #[.int .u64 (x:Int),.int .u64 (b:Int),.int .u64 (c:Int),.int .u64 (d:Int)]) (by simp[results,Tryz.results129,go_sem]) rfl ⟨rfl,(zdl _ _ _).drew⟩
 ·rw[hat,hne 0 (by omega),hne 2 (by omega),hne 3 (by omega)];clear hat hne;generalize mw M 0=a at *;generalize mw M 1=b at *;generalize mw M 2=c at *;generalize mw M 3=d at *;have hB:=ziv b r l1 h64;generalize b ||| 2 ^ r=x at hB ⊢
  go_enter Tryz.func129,Tryz.ntmps129
  go_wp2;go_region
  go_wp2;exact bodyPost_ret (v:=.agg #[.int .u64 (a:Int),.int .u64 (x:Int),.int .u64 (c:Int),.int .u64 (d:Int)]) (by simp[results,Tryz.results129,go_sem]) rfl ⟨rfl,(zdl _ _ _).drew⟩
 ·rw[hat,hne 0 (by omega),hne 1 (by omega),hne 3 (by omega)];clear hat hne;generalize mw M 0=a at *;generalize mw M 1=b at *;generalize mw M 2=c at *;generalize mw M 3=d at *;have hB:=ziv c r l2 h64;generalize c ||| 2 ^ r=x at hB ⊢
  go_enter Tryz.func129,Tryz.ntmps129
  go_wp2;go_region
  go_wp2;exact bodyPost_ret (v:=.agg #[.int .u64 (a:Int),.int .u64 (b:Int),.int .u64 (x:Int),.int .u64 (d:Int)]) (by simp[results,Tryz.results129,go_sem]) rfl ⟨rfl,(zdl _ _ _).drew⟩
 ·rw[hat,hne 0 (by omega),hne 1 (by omega),hne 2 (by omega)];clear hat hne;generalize mw M 0=a at *;generalize mw M 1=b at *;generalize mw M 2=c at *;generalize mw M 3=d at *;have hB:=ziv d r l3 h64;generalize d ||| 2 ^ r=x at hB ⊢
  go_enter Tryz.func129,Tryz.ntmps129
  go_wp2;go_region
  go_wp2;exact bodyPost_ret (v:=.agg #[.int .u64 (a:Int),.int .u64 (b:Int),.int .u64 (c:Int),.int .u64 (x:Int)]) (by simp[results,Tryz.results129,go_sem]) rfl ⟨rfl,(zdl _ _ _).drew⟩
theorem Tryz.info92:(Tryz.prog.info? 92).map (fun i=>(i.zero,i.size,i.bytes))=some (some (.int .u64 0),1,8):=by kernel_rfl
theorem zgW(d:Nat)(a b:Int)(w:World):(Op.equalIn (d+1) 92 (.int .u64 a) (.int .u64 b)).run Tryz.prog w=.ok (a==b) w:=by
 simp[Op.equalIn,run_underlying Tryz.underlying92]
theorem zji(a0 a1 a2 a3 b0 b1 b2 b3:Int)(w:World) :
 (Op.equalIn 10000 94 (.agg #[.int .u64 a0,.int .u64 a1,.int .u64 a2,.int .u64 a3]) (.agg #[.int .u64 b0,.int .u64 b1,.int .u64 b2,.int .u64 b3])).run Tryz.prog w=.ok (decide (a0=b0∧a1=b1∧a2=b2∧a3=b3)) w:=by
 obtain⟨i0,hi,hz0,hz1,hz2⟩:=info_parts Tryz.info92;rw[run_equalIn_array w 9999 _ _ Tryz.underlying94 hi];have hc:Tryz.prog.cellsOf 92=1:=by kernel_rfl
 rw[hc];have hp:∀ (cs:Array Value) (k:Nat) (v:Value) (W:World),cs[k]? = some v→(part 92 cs k).run Tryz.prog W=.ok v W:=by
  intro cs k v W h;simp[part,go_sem,h,isAgg,run_underlying Tryz.underlying92]
 have hstep:∀ (xs ys:Array Value) (k:Nat) (a b:Int) (is:List Nat),xs[k*1]? = some (.int .u64 a)→ys[k*1]? = some (.int .u64 b)→(Op.eqItems 9999 92 1 xs ys (k::is)).run Tryz.prog w=if a=b then (Op.eqItems 9999 92 1 xs ys is).run Tryz.prog w else .ok false w:=by
  intro xs ys k a b is hx hy;simp only[Op.eqItems,Sem.run_bind,hp _ _ _ _ hx,hp _ _ _ _ hy,Result.andThen_ok,zgW 9998];by_cases h:a=b<;>simp[h]
 show (Op.eqItems 9999 92 1 _ _ [0,1,2,3]).run Tryz.prog w=_;rw[hstep _ _ 0 a0 b0 _ rfl rfl,hstep _ _ 1 a1 b1 _ rfl rfl,hstep _ _ 2 a2 b2 _ rfl rfl,hstep _ _ 3 a3 b3 _ rfl rfl];by_cases h0:a0=b0
 ·by_cases h1:a1=b1
  ·by_cases h2:a2=b2
   ·by_cases h3:a3=b3
    ·simp[h0,h1,h2,h3,Op.eqItems]
    ·simp[h0,h1,h2,h3]
   ·simp[h0,h1,h2]
  ·simp[h0,h1]
 ·simp[h0]
theorem zfx(M N:Nat)(hM:M<2 ^ 256)(hN:N<2 ^ 256)(w:World) :
 (Op.equalIn 10000 94 (.agg #[.int .u64 (mw M 0:Int),.int .u64 (mw M 1:Int),.int .u64 (mw M 2:Int),.int .u64 (mw M 3:Int)]) (.agg #[.int .u64 (mw N 0:Int),.int .u64 (mw N 1:Int),.int .u64 (mw N 2:Int),.int .u64 (mw N 3:Int)])).run Tryz.prog w=.ok (decide (M=N)) w:=by
 rw[zji];congr 1
 apply decide_eq_decide.2;constructor
 ·rintro ⟨h0,h1,h2,h3⟩;exact mw_ext hM hN (by omega) (by omega) (by omega) (by omega)
 ·rintro rfl;exact⟨rfl,rfl,rfl,rfl⟩
theorem zoQ(w:World)(M:Nat)(t:TypeId):MAt (w.alloc (.cells #[.int .u64 (mw M 0:Int),.int .u64 (mw M 1:Int),.int .u64 (mw M 2:Int),.int .u64 (mw M 3:Int)] t)) w.heap.size M :=
 ⟨by simp,by simp,by simp,by simp⟩
theorem MAt.lt{w:World}{b M:Nat}(h:MAt w b M):b<w.heap.size:=World.block_lt_of_cell? w _ h.1
theorem MAt.below{w w':World}{b M:Nat}(h:MAt w b M)(hb:Below w.heap.size w w'):MAt w' b M:=by
 have hl:=h.lt;obtain⟨h0,h1,h2,h3⟩:=h;exact⟨by rw[hb.cell hl];exact h0,by rw[hb.cell hl];exact h1,by rw[hb.cell hl];exact h2,by rw[hb.cell hl];exact h3⟩
theorem zjN(i d:Nat){P:Program}{ops:Array Oper}{Q:Exit→Act→World→Prop}{md:Region.Mode}{S:World→Prop}{oi:Oper}{v:Value}{fuel:Nat}{listed:Array Bool}{a a':Act}{w:World}(hS:S w)(h:wpAnyH P md ops (NoPanic Q) S fuel (listed.setIfInBounds i true) a' w)(hi:ops[i]? = some oi:=by rfl)(hd:oi.dst=some d:=by rfl)(hs:Region.noSelect ops=true:=by kernel_rfl)(hf:Region.free md ops listed i=true:=by kernel_rfl)(hr:(Region.ready md ops listed).contains i=true:=by kernel_rfl)(hw:Region.wanted oi (yielded ops a.tmps)=true:=by kernel_rfl)(hy:∀ w,S w→(execOp a.eval oi).run P w=.ok (.value v) w:=by intro w hS;(try dsimp only[EntAt,MAt,Nat.zero_add] at hS);go_simp;(try with_reducible rfl))(ha:a.put (some d) v=a':=by (try simp only[Act.put,sA,sZ,sS]);(try rfl)):wpAnyH P md ops (NoPanic Q) S (fuel+1) listed a w:=takeH hi hd hs hf hr (fun _ _ _ h=>h) (Or.inl ⟨hw,hy⟩) hS (ha ▸ h)
theorem has_any(M n:Nat)(w:World)(hM:M<2 ^ 256)(hn:n<256) :
 Calls Tryz.prog 102 #[MV M,.int .i64 n] w fun e w'=>e=.returned (.bool (M.testBit n))∧Below w.heap.size w w':=by
 have HW:Hid (∀ W,Calls Tryz.prog 129 #[.agg #[.int .u64 (mw M 0:Int),.int .u64 (mw M 1:Int),.int .u64 (mw M 2:Int),.int .u64 (mw M 3:Int)],.int .i64 n] W fun e w'=>e=.returned (MV (mset M n))∧Below W.heap.size W w'):=fun W=>zfR M n W hn
 have hE:=zfx M (mset M n) hM (zpw hM hn);have HR:Hid (M.testBit n=decide (M=mset M n)):=by unfold Hid;rw[Bool.eq_iff_iff,decide_eq_true_eq,zop]
 generalize decide (M=mset M n)=r at hE HR;unfold MV;go_enter Tryz.func102,Tryz.ntmps102
 go_wp2;refine brg (S:=fun W=>MAt W w.heap.size M) (zoQ _ _ _) (fun hH=>?_);refine zjN 0 5 hH ?_;refine zjN 1 6 hH ?_;refine zjN 2 7 hH ?_;refine rdy 3 (fun K hK=>?_);go_simp;refine(HW.out _).mono ?_;rintro e w' ⟨rfl,hb'⟩;unfold MV;refine hK.out _ _ (hH.below hb') (fun hA=>?_);clear hK K;try simp only[Act.put,sA,sZ,sS]
 refine zjN 4 9 hA ?_;refine zjN 5 4 hA ?_;refine dne ?_;have bb:=(ze w (.cells #[.int .u64 (mw M 0:Int),.int .u64 (mw M 1:Int),.int .u64 (mw M 2:Int),.int .u64 (mw M 3:Int)] 94)).drew.trans (hb'.mono (by simp));go_wp2;go_ret;exact⟨zN HR.out.symm,bb⟩
def MBox(w:World)(b:Nat)(M:Nat):Prop:=MAt w b M∧∀ o,w.frozen? ⟨b,o,none⟩=false
theorem MBox.below{w w':World}{b M:Nat}(h:MBox w b M)(hb:Below w.heap.size w w'):MBox w' b M :=
 ⟨h.1.below hb,fun o=>((bcell hb).2 b o h.1.lt).trans (h.2 o)⟩
theorem zlv(w:World)(M:Nat)(t:TypeId):MBox (w.alloc (.cells #[.int .u64 (mw M 0:Int),.int .u64 (mw M 1:Int),.int .u64 (mw M 2:Int),.int .u64 (mw M 3:Int)] t)) w.heap.size M :=
 ⟨zoQ w M t,fun o=>by simp⟩
theorem zdq(w:World)(t:TypeId):MBox (w.alloc (.cells #[.int .u64 0,.int .u64 0,.int .u64 0,.int .u64 0] t)) w.heap.size 0 :=
 ⟨⟨by simp[mw],by simp[mw],by simp[mw],by simp[mw]⟩,fun o=>by simp⟩
theorem MBox.facts{w:World}{b M:Nat}(h:MBox w b M):w.cell? ⟨b,0,none⟩=some (.int .u64 (mw M 0:Int))∧w.cell? ⟨b,1,none⟩=some (.int .u64 (mw M 1:Int))∧w.cell? ⟨b,2,none⟩=some (.int .u64 (mw M 2:Int))∧w.cell? ⟨b,3,none⟩=some (.int .u64 (mw M 3:Int)) ∧
 w.frozen? ⟨b,0,none⟩=false∧w.frozen? ⟨b,1,none⟩=false∧w.frozen? ⟨b,2,none⟩=false∧w.frozen? ⟨b,3,none⟩=false:=by
 obtain⟨⟨h0,h1,h2,h3⟩,hf⟩:=h;exact⟨h0,h1,h2,h3,hf 0,hf 1,hf 2,hf 3⟩
theorem mrem(d:Nat)(h:d<2147483647):((d:Int)).tmod 256=((d % 256:Nat):Int):=by rw[Int.tmod_eq_emod_of_nonneg (by omega)];omega
theorem zk7(M:Nat)(key:ByteArray)(w:World)(hk:key.size≤1099511627776) :
 Calls Tryz.prog 101 #[MV M,.string key] w fun e w'=>e=.returned (MV (mkey M key))∧Below w.heap.size w w':=by
 have HD1:Hid (∀ W,Calls Tryz.prog 128 #[.int .i64 1,.string key] W fun e w'=>e=.returned (.int .i64 (dig 1 key.data.toList:Int))∧Below W.heap.size W w'):=fun W=>zfC 1 key W (by omega) hk
 have HD2:Hid (∀ W,Calls Tryz.prog 128 #[.int .i64 (dig 1 key.data.toList:Int),.string ⟨#[42]⟩] W fun e w'=>e=.returned (.int .i64 (dig 1 (key.data.toList++[42]):Int))∧Below W.heap.size W w'):=fun W=>by
  have:=zfC (dig 1 key.data.toList) ⟨#[42]⟩ W (zjm _ _ (by omega)) (by decide);rw[zmh];exact this
 have l1:=mrem _ (zjm key.data.toList 1 (by omega));have l2:=mrem _ (zjm (key.data.toList++[42]) 1 (by omega));have HK:Hid (mkey M key=mset (mset M (dig 1 key.data.toList % 256)) (dig 1 (key.data.toList++[42]) % 256)):=rfl;have m1:dig 1 key.data.toList % 256<256:=Nat.mod_lt _ (by omega);have m2:dig 1 (key.data.toList++[42]) % 256<256:=Nat.mod_lt _ (by omega);generalize dig 1 key.data.toList=d1 at *;generalize dig 1 (key.data.toList++[42])=d2 at *;obtain⟨n1,hn1⟩:∃ n,n=d1 % 256:=⟨_,rfl⟩;obtain⟨n2,hn2⟩:∃ n,n=d2 % 256:=⟨_,rfl⟩;rw[← hn1] at l1 m1 HK;rw[← hn2] at l2 m2 HK;clear hn1 hn2;rw[HK.out];clear HK;have HW1:Hid (∀ W,Calls Tryz.prog 129 #[.agg #[.int .u64 (mw M 0:Int),.int .u64 (mw M 1:Int),.int .u64 (mw M 2:Int),.int .u64 (mw M 3:Int)],.int .i64 n1] W fun e w'=>e=.returned (MV (mset M n1))∧Below W.heap.size W w'):=fun W=>zfR M n1 W m1
 have HW2:Hid (∀ W,Calls Tryz.prog 129 #[.agg #[.int .u64 (mw (mset M n1) 0:Int),.int .u64 (mw (mset M n1) 1:Int),.int .u64 (mw (mset M n1) 2:Int),.int .u64 (mw (mset M n1) 3:Int)],.int .i64 n2] W fun e w'=>e=.returned (MV (mset (mset M n1) n2))∧Below W.heap.size W w'):=fun W=>zfR (mset M n1) n2 W m2
 generalize mset M n1=M1 at *;generalize mset M1 n2=M2 at *;have hz0:=zlv w M 94;obtain⟨W0,hW0⟩:∃ W,W=w.alloc (.cells #[.int .u64 (mw M 0:Int),.int .u64 (mw M 1:Int),.int .u64 (mw M 2:Int),.int .u64 (mw M 3:Int)] 94):=⟨_,rfl⟩;have hs0:W0.heap.size=w.heap.size+1:=by rw[hW0];simp
 have hz:=hz0.below (ze _ (.cells #[.int .u64 0,.int .u64 0,.int .u64 0,.int .u64 0] 94));have hy:=zdq W0 94;have hbb:=zdl w (.cells #[.int .u64 (mw M 0:Int),.int .u64 (mw M 1:Int),.int .u64 (mw M 2:Int),.int .u64 (mw M 3:Int)] 94) (.cells #[.int .u64 0,.int .u64 0,.int .u64 0,.int .u64 0] 94);rw[hs0,hW0] at hy;clear hz0 hs0 hW0 W0;unfold MV at *;go_enter Tryz.func101,Tryz.ntmps101
 go_wp2_with fail
 refine(HD1.out _).mono ?_;rintro e w1 ⟨rfl,hb1⟩;have b1:=hbb.trans (hb1.mono (by simp;omega));replace hz:=hz.below hb1;replace hy:=hy.below hb1;clear hb1 hbb;obtain⟨c0,c1,c2,c3,_,_,_,_⟩:=hz.facts;clear hz;go_wp2_with fail
 refine(HW1.out _).mono ?_;rintro e w2 ⟨rfl,hb2⟩;have b2:=b1.trans (hb2.mono b1.size);replace hy:=hy.below hb2;clear hb2 b1 c0 c1 c2 c3;go_wp2_with fail
 refine(HD2.out _).mono ?_;rintro e w3 ⟨rfl,hb3⟩;have b3:=b2.trans (hb3.mono b2.size);replace hy:=hy.below hb3;clear hb3 b2;go_wp2_with fail
 refine(HW2.out _).mono ?_;rintro e w4 ⟨rfl,hb4⟩;have b4:=b3.trans (hb4.mono b3.size);replace hy:=hy.below hb4;clear hb4 b3;obtain⟨z0,z1,z2,z3,f0,f1,f2,f3⟩:=hy.facts;clear hy;go_wp2;exact bodyPost_ret (v:=.agg #[.int .u64 (mw M2 0:Int),.int .u64 (mw M2 1:Int),.int .u64 (mw M2 2:Int),.int .u64 (mw M2 3:Int)]) (by simp[results,Tryz.results101,go_sem,z0,z1,z2,z3]) rfl ⟨rfl,zbv b4 (Nat.le_succ _) _ _ _ _ _ _ _ _⟩
open Go.RowKit
theorem MBox.put{w:World}{b M:Nat}(h:MBox w b M)(N:Nat):MBox ((((w.setCell ⟨b,0,none⟩ (.int .u64 (mw N 0:Int))).setCell ⟨b,1,none⟩ (.int .u64 (mw N 1:Int))).setCell ⟨b,2,none⟩ (.int .u64 (mw N 2:Int))).setCell ⟨b,3,none⟩ (.int .u64 (mw N 3:Int))) b N:=by
 obtain⟨z0,z1,z2,z3,f0,f1,f2,f3⟩:=h.facts;refine⟨⟨?_,?_,?_,?_⟩,fun o=>?_⟩
 ·rw[World.cell?_setCell_other _ _ _ _ (by simp),World.cell?_setCell_other _ _ _ _ (by simp),World.cell?_setCell_other _ _ _ _ (by simp),World.cell?_setCell_same _ _ _ z0]
 ·rw[World.cell?_setCell_other _ _ _ _ (by simp),World.cell?_setCell_other _ _ _ _ (by simp)];exact World.cell?_setCell_same _ _ _ (by rw[World.cell?_setCell_other _ _ _ _ (by simp)];exact z1)
 ·rw[World.cell?_setCell_other _ _ _ _ (by simp)];exact World.cell?_setCell_same _ _ _ (by rw[World.cell?_setCell_other _ _ _ _ (by simp),World.cell?_setCell_other _ _ _ _ (by simp)];exact z2)
 ·exact World.cell?_setCell_same _ _ _ (by rw[World.cell?_setCell_other _ _ _ _ (by simp),World.cell?_setCell_other _ _ _ _ (by simp),World.cell?_setCell_other _ _ _ _ (by simp)];exact z3)
 ·rw[World.frozen?_setCell,World.frozen?_setCell,World.frozen?_setCell,World.frozen?_setCell];exact h.2 o
theorem MBox.keep{w:World}{b M c:Nat}(h:MBox w b M)(hc:c≠b)(x0 x1 x2 x3:Value):MBox ((((w.setCell ⟨c,0,none⟩ x0).setCell ⟨c,1,none⟩ x1).setCell ⟨c,2,none⟩ x2).setCell ⟨c,3,none⟩ x3) b M:=by
 have hcell:∀ o,((((w.setCell ⟨c,0,none⟩ x0).setCell ⟨c,1,none⟩ x1).setCell ⟨c,2,none⟩ x2).setCell ⟨c,3,none⟩ x3).cell? ⟨b,o,none⟩=w.cell? ⟨b,o,none⟩:=fun o=>by
  rw[World.cell?_setCell_other _ _ _ _ (by intro e;cases e;exact hc rfl),World.cell?_setCell_other _ _ _ _ (by intro e;cases e;exact hc rfl),World.cell?_setCell_other _ _ _ _ (by intro e;cases e;exact hc rfl),World.cell?_setCell_other _ _ _ _ (by intro e;cases e;exact hc rfl)]
 refine⟨⟨by rw[hcell];exact h.1.1,by rw[hcell];exact h.1.2.1,by rw[hcell];exact h.1.2.2.1,by rw[hcell];exact h.1.2.2.2⟩,fun o=>?_⟩;rw[World.frozen?_setCell,World.frozen?_setCell,World.frozen?_setCell,World.frozen?_setCell];exact h.2 o
theorem MBox.grown{w w':World}{b M:Nat}{g:Option Nat}(h:MBox w b M)(hg:w.grownBy w' g)(hn:∀ j,g=some j→j≠b):MBox w' b M:=by
 have hl:=h.1.lt;obtain⟨_,_,_,_,hk⟩:=hg;have hb:w'.heap[b]? = w.heap[b]?:=hk b hl (fun e=>hn b e.symm rfl);have hc:∀ o,w'.cell? ⟨b,o,none⟩=w.cell? ⟨b,o,none⟩:=fun o=>by unfold World.cell?;simp only[hb]
 refine⟨⟨by rw[hc];exact h.1.1,by rw[hc];exact h.1.2.1,by rw[hc];exact h.1.2.2.1,by rw[hc];exact h.1.2.2.2⟩,fun o=>?_⟩;have:=h.2 o;unfold World.frozen? at this ⊢;simp only[hb];exact this
theorem mKF_at{es:List Ent}{k:Nat}(h:k<es.length)(M:Nat):(es.drop k).foldl (fun M e=>mkey M e.key) M=(es.drop (k+1)).foldl (fun M e=>mkey M e.key) (mkey M (nth es k).key):=by
 rw[List.drop_eq_getElem_cons h,List.foldl_cons,zU h]
theorem zdJ(v:Value)(es:List Ent)(w:World)(hr:RdE w v es)(hf:∀ e∈es,e.key.size≤1000000000) :
 Calls Tryz.prog 62 #[v] w fun e w'=>e=.returned (MV (mKeys es))∧Below w.heap.size w w':=by
 obtain⟨a,cap,hv,hl,hm,_⟩:=id hr;unfold maxLen at hm;subst hv;have HF:Hid (∀ e∈es,e.key.size≤1000000000):=hf;clear hf;obtain⟨W0,hW0⟩:∃ W,W=w.alloc (.cells #[.int .u64 0,.int .u64 0,.int .u64 0,.int .u64 0] 94):=⟨_,rfl⟩;have hs0:W0.heap.size=w.heap.size+1:=by rw[hW0];simp
 have hz:=(zdq w 94).below (ze _ (.cells #[.int .u64 0,.int .u64 0,.int .u64 0,.int .u64 0] 94));have hy:=zdq W0 94;have hbb:=zdl w (.cells #[.int .u64 0,.int .u64 0,.int .u64 0,.int .u64 0] 94) (.cells #[.int .u64 0,.int .u64 0,.int .u64 0,.int .u64 0] 94);rw[hs0,hW0] at hy;clear hs0 hW0 W0;unfold MV;go_enter Tryz.func62,Tryz.ntmps62
 go_wp2;go_loopw [9] (fun i wr=>∃ k M:Nat,k≤es.length∧i=.int .i64 k∧Hid ((es.drop k).foldl (fun M e=>mkey M e.key) M=mKeys es)∧MBox wr w.heap.size 0∧MBox wr (w.heap.size+1) M∧Below w.heap.size w wr) (fun i _=>es.length-(intOf i).toNat)
 case atStart=>exact⟨0,0,Nat.zero_le _,rfl,rfl,hz,hy,hbb⟩
 case round =>
  obtain⟨k,M,hk,rfl,HO,hz2,hy2,hb⟩:=hrel;clear hz hy hbb;by_cases hlt:k<es.length
  ·obtain⟨b,off,rfl,hc⟩:=hr.at rfl k hlt;have hc2:=hc.below hb;have hlt2:=hc2.lt;have hfk:=HF.out _ (List.getElem_mem hlt);rw[← zU hlt] at hfk;obtain⟨x,hx⟩:∃ x,x=nth es k:=⟨_,rfl⟩;rw[← hx] at hc2 hfk;have HO2:Hid ((es.drop (k+1)).foldl (fun M e=>mkey M e.key) (mkey M x.key)=mKeys es):=(by rw[hx,← mKF_at hlt];exact HO);clear hx hc HO;have HK:Hid (∀ W,Calls Tryz.prog 101 #[.agg #[.int .u64 (mw M 0:Int),.int .u64 (mw M 1:Int),.int .u64 (mw M 2:Int),.int .u64 (mw M 3:Int)],.string x.key] W fun e w'=>e=.returned (MV (mkey M x.key))∧Below W.heap.size W w'):=fun W=>zk7 M x.key W (by omega)
   generalize mkey M x.key=M2 at HK HO2;unfold MV at HK;obtain⟨c0,c1,c2,c3⟩:=hc2;have be:=ze wr (.cells #[.string x.key,.string x.val,.int .i64 x.seq,.bool x.gone] 40);have hy3:=hy2.below be;have hz3:=hz2.below be;have b3:=hb.trans (be.mono hb.size);obtain⟨y0,y1,y2,y3,_,_,_,_⟩:=hy3.facts;clear hy2 hz2 be;go_wp2_with fail
   refine(HK.out _).mono ?_;rintro e w4 ⟨rfl,hb4⟩;have hz4:=hz3.below hb4;have hy4:=hy3.below hb4;have b4:=b3.trans (hb4.mono b3.size);clear hb4 hy3 hz3 b3 y0 y1 y2 y3 c0 c1 c2 c3;obtain⟨x0,x1,x2,x3,f0,f1,f2,f3⟩:=hy4.facts;go_wp2;go_roundw
   case rel=>exact⟨k+1,M2,by omega,by go_num,HO2,hz4.keep (by omega) _ _ _ _,hy4.put M2,zbv b4 (by omega) _ _ _ _ _ _ _ _⟩
   case measure=>simp[intOf];omega
  ·have HE:Hid (M=mKeys es):=(by have:=HO.out;rw[List.drop_eq_nil_of_le (by omega)] at this;exact this);have hke:¬ (k:Int)<(es.length:Int):=(by omega);clear HO;obtain⟨x0,x1,x2,x3,_,_,_,_⟩:=hy2.facts;obtain⟨z0,z1,z2,z3,f0,f1,f2,f3⟩:=hz2.facts;go_wp2;rw[← HE.out];exact bodyPost_ret (v:=.agg #[.int .u64 (mw M 0:Int),.int .u64 (mw M 1:Int),.int .u64 (mw M 2:Int),.int .u64 (mw M 3:Int)]) (by simp[results,Tryz.results62,go_sem,z0,z1,z2,z3]) rfl ⟨rfl,zbv hb (nR _) _ _ _ _ _ _ _ _⟩
theorem zoM{M g k:Nat}(bs:List Int)(R:List Int)(h:bs++za8 M (g+1) k=R):(M.testBit k=true→bs++[(k:Int)]++za8 M g (k+1)=R)∧(M.testBit k=false→bs++za8 M g (k+1)=R):=by
 rw[za8] at h;constructor
 ·intro hb;rw[if_pos hb] at h;rw[List.append_assoc];exact h
 ·intro hb;rw[if_neg (by simp[hb])] at h;exact h
theorem bits_any(M:Nat)(w:World)(hM:M<2 ^ 256) :
 Calls Tryz.prog 63 #[MV M] w fun e w'=>∃ u,e=.returned u∧OwnI w' w.heap.size u (za8 M 256 0)∧Below w.heap.size w w':=by
 have hz0:=zlv w M 94;have hz:=hz0.below (ze _ (.cells #[] 2));have hb0:=zdl w (.cells #[.int .u64 (mw M 0:Int),.int .u64 (mw M 1:Int),.int .u64 (mw M 2:Int),.int .u64 (mw M 3:Int)] 94) (.cells #[] 2);have ho0:=(zcn (w.alloc (.cells #[.int .u64 (mw M 0:Int),.int .u64 (mw M 1:Int),.int .u64 (mw M 2:Int),.int .u64 (mw M 3:Int)] 94))).mono (show w.heap.size+1≤_ by simp);have hs1:(w.alloc (.cells #[.int .u64 (mw M 0:Int),.int .u64 (mw M 1:Int),.int .u64 (mw M 2:Int),.int .u64 (mw M 3:Int)] 94)).heap.size=w.heap.size+1:=by simp
 rw[hs1] at ho0;clear hs1 hz0;obtain⟨R,hR⟩:∃ R,R=za8 M 256 0:=⟨_,rfl⟩;rw[← hR];have HR:Hid ([]++za8 M 256 0=R):=by rw[hR];rfl
 clear hR;unfold MV;go_enter Tryz.func63,Tryz.ntmps63
 go_wp2;go_loopg [3,6] 256 (fun gg u i wr=>∃ (k:Nat) (bs:List Int),k+gg=256∧i=.int .i64 k∧Hid (bs++za8 M gg k=R)∧bs.length≤k∧OwnI wr (w.heap.size+1) u bs∧MBox wr w.heap.size M∧Below w.heap.size w wr)
 case atStart=>exact⟨0,[],by omega,rfl,HR,nR _,ho0,hz,hb0⟩
 case round =>
  obtain⟨k,bs,hkg,rfl,HB,hbl,ho,hz2,hb⟩:=hrel;clear ho0 hz hb0 HR;by_cases hlt:k<256
  ·cases gk with
   | zero=>exfalso;omega
   | succ gg =>
    have hwl:=hz2.1.lt;obtain⟨c0,c1,c2,c3,_,_,_,_⟩:=hz2.facts;have HS:=zoM bs R HB.out;have HH:Hid (∀ W,Calls Tryz.prog 102 #[.agg #[.int .u64 (mw M 0:Int),.int .u64 (mw M 1:Int),.int .u64 (mw M 2:Int),.int .u64 (mw M 3:Int)],.int .i64 k] W fun e w'=>e=.returned (.bool (M.testBit k))∧Below W.heap.size W w'):=fun W=>has_any M k W hM hlt
    cases htb:M.testBit k with
    | true =>
     have HB2:Hid (bs++[(k:Int)]++za8 M gg (k+1)=R):=HS.1 htb;rw[htb] at HH;clear HS htb;go_wp2_with fail
     refine(HH.out _).mono ?_;rintro e w4 ⟨rfl,hb4⟩;have ho4:=ho.below hb4;have hz4:=hz2.below hb4;have b4:=hb.trans (hb4.mono hb.size);clear ho hz2 hb hb4 c0 c1 c2 c3;have hov:=ho4;go_wp2_with (at_builtin;(refine zaw rfl _ _ rfl (w.heap.size+1) _ _ bs [(k:Int)] rfl rfl (ho4.below (ze _ _)) (zeP _ _).rd (by simp;omega) (by simp;have:=hz4.1.lt;omega) ?_))
     intro v5 w5 ho5 hg5;have be:=ze w4 (.cells #[.int .i64 (k:Int)] 2);have hz5:=(hz4.below be);have b5:Below w.heap.size w w5:=(b4.alloc b4.size _).grown hg5 (by simp;have:=b4.size;omega) (fun j hj=>by have:=(oL ho4 j hj).1;omega);have hz6:MBox w5 w.heap.size M:=hz5.grown hg5 (fun j hj=>by have:=(oL ho4 j hj).1;omega);clear hg5 ho4 hz4 b4 be hz5 hov;go_wp2;go_roundg gg
     case rel=>exact⟨k+1,bs++[(k:Int)],by omega,by go_num,HB2,by simp;omega,ho5,hz6,b5⟩
     case measure=>omega
    | false =>
     have HB2:Hid (bs++za8 M gg (k+1)=R):=HS.2 htb;rw[htb] at HH;clear HS htb;go_wp2_with fail
     refine(HH.out _).mono ?_;rintro e w4 ⟨rfl,hb4⟩;have ho4:=ho.below hb4;have hz4:=hz2.below hb4;have b4:=hb.trans (hb4.mono hb.size);clear ho hz2 hb hb4 c0 c1 c2 c3;go_wp2;go_roundg gg
     case rel=>exact⟨k+1,bs,by omega,by go_num,HB2,by omega,ho4,hz4,b4⟩
     case measure=>omega
  ·have hg0:gk=0:=(by omega);subst hg0;have HE:Hid (bs=R):=(by have:=HB.out;rw[za8,List.append_nil] at this;exact this);have hke:¬ (k:Int)<256:=(by omega);clear HB;go_wp2;go_ret;exact⟨_,rfl,by rw[← HE.out];exact ho.mono (Nat.le_succ _),hb⟩
theorem zdu{w:World}{b M:Nat}(c:Nat)(ty:TypeId)(hb:MBox w b M) :
 ∃ w',(Builtin.clear_ #[160] ty #[.slice (some ⟨b,0,none⟩) 4 c]).run Tryz.prog w=.ok (.tuple #[]) w'∧MBox w' b 0∧(∀ B v,Below B v w→B≤b→Below B v w')∧(∀ c N,MBox w c N→c≠b→MBox w' c N):=by
 obtain⟨z0,z1,z2,z3,f0,f1,f2,f3⟩:=hb.facts;have hrun:=Lib.run_clear_slice (P:=Tryz.prog) w 160 92 ty (.int .u64 0) Tryz.underlying160 (fun w=>by
  obtain⟨i0,hi,hz0,hz1,hz2⟩:=info_parts Tryz.info92;simp[zeroValue,typeInfo,hi,hz0]) rfl rfl b 0 4 c (by omega)
  (fun j hj=>by
   have:j=0∨j=1∨j=2∨j=3:=(by omega);rcases this with rfl | rfl | rfl | rfl
   ·rw[z0];rfl
   ·rw[z1];rfl
   ·rw[z2];rfl
   ·rw[z3];rfl)
  (fun j _=>hb.2 _)
 refine⟨_,hrun,hb.put 0,fun B v hB hl=>zbv hB hl _ _ _ _ _ _ _ _,fun c N hc hn=>hc.keep (fun e=>hn e.symm) _ _ _ _⟩
theorem mB_at{ns:List Int}{k:Nat}(h:k<ns.length)(a:Int)(M R:Nat)(hR:R=if za5 a (ns.drop k)=true then (ns.drop k).foldl (fun M n=>mset M n.toNat) M else 0) :
 (ns[k]≤a∨256≤ns[k]→R=0)∧(a<ns[k]→ns[k]<256→R=if za5 ns[k] (ns.drop (k+1))=true then (ns.drop (k+1)).foldl (fun M n=>mset M n.toNat) (mset M ns[k].toNat) else 0):=by
 rw[List.drop_eq_getElem_cons h,za5,List.foldl_cons] at hR;constructor
 ·intro hh;rw[hR,if_neg];rcases hh with hh | hh<;>simp[hh]
 ·intro h1 h2;have e1:decide (ns[k]≤a)=false:=by simp;omega
  have e2:decide (256≤ns[k])=false:=by simp;omega
  rw[hR,e1,e2];simp
theorem zgg(v:Value)(ns:List Int)(w:World)(hr:RdI w v ns) :
 Calls Tryz.prog 107 #[v] w fun e w'=>e=.returned (MV (mBits ns))∧Below w.heap.size w w':=by
 obtain⟨a,cap,hv,hl,hm,_⟩:=id hr;unfold maxLen at hm;subst hv;obtain⟨R,hR⟩:∃ R,R=mBits ns:=⟨_,rfl⟩;rw[← hR];have HR:Hid (R=if za5 (-1) (ns.drop 0)=true then (ns.drop 0).foldl (fun M n=>mset M n.toNat) 0 else 0):=hR;clear hR;obtain⟨W0,hW0⟩:∃ W,W=w.alloc (.cells #[.int .u64 0,.int .u64 0,.int .u64 0,.int .u64 0] 94):=⟨_,rfl⟩;have hs0:W0.heap.size=w.heap.size+1:=by rw[hW0];simp
 have hz:=(zdq w 94).below (ze _ (.cells #[.int .u64 0,.int .u64 0,.int .u64 0,.int .u64 0] 94));have hy:=zdq W0 94;have hbb:=zdl w (.cells #[.int .u64 0,.int .u64 0,.int .u64 0,.int .u64 0] 94) (.cells #[.int .u64 0,.int .u64 0,.int .u64 0,.int .u64 0] 94);rw[hs0,hW0] at hy;clear hs0 hW0 W0;unfold MV;go_enter Tryz.func107,Tryz.ntmps107
 go_wp2;go_loopw [4,10] (fun av i wr=>∃ (k M:Nat) (ah:Int),k≤ns.length∧i=.int .i64 k∧av=.int .i64 ah∧-1≤ah∧Hid (R=if za5 ah (ns.drop k)=true then (ns.drop k).foldl (fun M n=>mset M n.toNat) M else 0)∧MBox wr w.heap.size 0∧MBox wr (w.heap.size+1) M∧Below w.heap.size w wr) (fun _ i _=>ns.length-(intOf i).toNat)
 case atStart=>exact⟨0,0,-1,Nat.zero_le _,rfl,rfl,Int.le_refl _,HR,hz,hy,hbb⟩
 case round =>
  obtain⟨k,M,ah,hk,rfl,rfl,hah,HO,hz2,hy2,hb⟩:=hrel;clear hz hy hbb HR;by_cases hlt:k<ns.length
  ·obtain⟨b,off,rfl,hc⟩:=(hr.below hb).at k hlt;obtain⟨x,hx⟩:∃ x,x=ns[k]:=⟨_,rfl⟩;have HS:=mB_at hlt ah M R HO.out;rw[← hx] at hc HS;have HS1:Hid (x≤ah∨256≤x→R=0):=HS.1;have HS2:Hid (ah<x→x<256→R=if za5 x (ns.drop (k+1))=true then (ns.drop (k+1)).foldl (fun M n=>mset M n.toNat) (mset M x.toNat) else 0):=HS.2;clear HS HO hx;by_cases hbad:x≤ah∨256≤x
   ·have HE:Hid (R=0):=HS1.out hbad;clear HS1 HS2;have hd:(x≤ah)∨(¬ x≤ah∧256≤x):=(by omega);clear hbad;rcases hd with hd | hd
    ·obtain⟨W2,hcl,hy3,hB3,hK3⟩:=zdu 4 0 hy2;have hz3:=hK3 _ _ hz2 (by omega);have b3:=hB3 _ _ hb (by omega);clear hy2 hz2 hB3 hK3;obtain⟨x0,x1,x2,x3,_,_,_,_⟩:=hy3.facts;obtain⟨z0,z1,z2,z3,f0,f1,f2,f3⟩:=hz3.facts;go_wp2;rw[HE.out];exact bodyPost_ret (v:=.agg #[.int .u64 (mw 0 0:Int),.int .u64 (mw 0 1:Int),.int .u64 (mw 0 2:Int),.int .u64 (mw 0 3:Int)]) (by simp[results,Tryz.results107,go_sem,z0,z1,z2,z3]) rfl ⟨rfl,zbv b3 (nR _) _ _ _ _ _ _ _ _⟩
    ·obtain⟨W2,hcl,hy3,hB3,hK3⟩:=zdu 4 0 hy2;have hz3:=hK3 _ _ hz2 (by omega);have b3:=hB3 _ _ hb (by omega);obtain⟨hd1,hd2⟩:=hd;clear hy2 hz2 hB3 hK3;obtain⟨x0,x1,x2,x3,_,_,_,_⟩:=hy3.facts;obtain⟨z0,z1,z2,z3,f0,f1,f2,f3⟩:=hz3.facts;go_wp2;rw[HE.out];exact bodyPost_ret (v:=.agg #[.int .u64 (mw 0 0:Int),.int .u64 (mw 0 1:Int),.int .u64 (mw 0 2:Int),.int .u64 (mw 0 3:Int)]) (by simp[results,Tryz.results107,go_sem,z0,z1,z2,z3]) rfl ⟨rfl,zbv b3 (nR _) _ _ _ _ _ _ _ _⟩
   ·have h1:¬ x≤ah:=(by omega);have h2:¬ 256≤x:=(by omega);have HO2:=HS2.out (by omega) (by omega);obtain⟨m,rfl⟩:∃ m:Nat,x=(m:Int):=⟨x.toNat,by omega⟩;rw[Int.toNat_natCast] at HO2;have hm2:m<256:=(by omega);have HW:Hid (∀ W,Calls Tryz.prog 129 #[.agg #[.int .u64 (mw M 0:Int),.int .u64 (mw M 1:Int),.int .u64 (mw M 2:Int),.int .u64 (mw M 3:Int)],.int .i64 m] W fun e w'=>e=.returned (MV (mset M m))∧Below W.heap.size W w'):=fun W=>zfR M m W hm2
    generalize mset M m=M2 at HW HO2;have HO3:Hid (R=if za5 (m:Int) (ns.drop (k+1))=true then (ns.drop (k+1)).foldl (fun M n=>mset M n.toNat) M2 else 0):=HO2;clear HO2 HS1 HS2 hbad;unfold MV at HW;obtain⟨y0,y1,y2,y3,_,_,_,_⟩:=hy2.facts;go_wp2_with fail
    refine(HW.out _).mono ?_;rintro e w4 ⟨rfl,hb4⟩;have hz4:=hz2.below hb4;have hy4:=hy2.below hb4;have b4:=hb.trans (hb4.mono hb.size);clear hb4 hy2 hz2 hb y0 y1 y2 y3;obtain⟨x0,x1,x2,x3,f0,f1,f2,f3⟩:=hy4.facts;go_wp2;go_roundw
    case rel=>exact⟨k+1,M2,m,by omega,by go_num,rfl,by omega,HO3,hz4.keep (by omega) _ _ _ _,hy4.put M2,zbv b4 (by omega) _ _ _ _ _ _ _ _⟩
    case measure=>simp[intOf];omega
  ·have HE:Hid (R=M):=(by have:=HO.out;rw[List.drop_eq_nil_of_le (by omega)] at this;show R=M;simpa [za5] using this);have hke:¬ (k:Int)<(ns.length:Int):=(by omega);clear HO;obtain⟨x0,x1,x2,x3,_,_,_,_⟩:=hy2.facts;obtain⟨z0,z1,z2,z3,f0,f1,f2,f3⟩:=hz2.facts;go_wp2;rw[HE.out];exact bodyPost_ret (v:=.agg #[.int .u64 (mw M 0:Int),.int .u64 (mw M 1:Int),.int .u64 (mw M 2:Int),.int .u64 (mw M 3:Int)]) (by simp[results,Tryz.results107,go_sem,z0,z1,z2,z3]) rfl ⟨rfl,zbv hb (nR _) _ _ _ _ _ _ _ _⟩
open Go.RowKit
theorem zna(T:Tbl):((allI T).2=true→okL (allI T).1=true∧(allI T).1≠[]∧zT T=(decide (T.first=(nth (allI T).1 0).key)&&decide (T.last=(nth (allI T).1 ((allI T).1.length-1)).key)&&decide (T.bits=bitsL (allI T).1))∧(zT T=true→zu T=(allI T).1))∧((allI T).2=false→zT T=false):=by
 unfold allI;by_cases h:(allL T).2=true
 ·rw[if_pos h];have h2:=allL_true h;refine⟨fun _=>⟨h2.1,h2.2,?_,fun ht=>?_⟩,fun h3=>by rw[h] at h3;cases h3⟩
  ·unfold zT;rw[h];simp
  ·unfold zu;rw[if_pos ht]
 ·rw[if_neg h];refine⟨(fun h3=>by cases h3),fun _=>?_⟩;unfold zT;simp[h]
theorem ent_none{T:Tbl}(h:zT T=false):zu T=[]:=by unfold zu;rw[if_neg (by simp[h])]
theorem zfs(T:Tbl)(vb vk:Value)(w:World)(hi:RdI w vb T.bits)(hr:RdS w vk T.blocks)(hz:∀ s∈T.blocks,s.size≤1000000000) :
 Calls Tryz.prog 69 #[.agg #[.string T.first,.string T.last,vb,vk]] w fun e w'=>zbW w (zu T,zT T) e w':=by
 have ht0:=zeI w T vb vk 56;have b0:=ze w (.cells #[.string T.first,.string T.last,vb,vk] 56);have HALL:=zeF T vk _ (hr.below b0) hz;obtain⟨P,hP⟩:∃ P,P=(zu T,zT T):=⟨_,rfl⟩;rw[← hP];obtain⟨F,hF⟩:∃ F,F=allI T:=⟨_,rfl⟩;have HT:=zna T;rw[← hF] at HALL HT;have HA:Hid (Calls _ _ _ _ _):=HALL;have HNO:Hid (zT T=false→P=([],false)):=fun h=>by rw[hP,h,ent_none h]
 have HF0:Hid (F.2=false→P=([],false)):=fun h=>HNO.out (HT.2 h)
 have HT2:Hid (F.2=true→okL F.1=true∧F.1≠[]∧zT T=(decide (T.first=(nth F.1 0).key)&&decide (T.last=(nth F.1 (F.1.length-1)).key)&&decide (T.bits=bitsL F.1))∧(zT T=true→zu T=F.1)):=HT.1;have HPP:Hid (P=(zu T,zT T)):=hP;clear hF HALL HT hP;obtain⟨es,is⟩:=F;simp only at HF0 HT2;obtain⟨d0,d1,d2,d3⟩:=id ht0;obtain⟨ak,ck,hvk,_⟩:=id hr;generalize T.blocks.length=kn at hvk;subst hvk;go_enter Tryz.func69,Tryz.ntmps69
 go_wp2_with fail
 refine HA.out.mono ?_;rintro e w1 ⟨u,rfl,ho1,hb1⟩;simp only at ho1 ⊢;have ht1:=ht0.below hb1;have b1:=b0.trans (hb1.mono b0.size);have hi1:=hi.below b1;clear HA ht0 b0 hb1 d0 d1 d2 d3;cases is with
 | false =>
  have RES:Hid (P=([],false)):=HF0.out rfl;go_wp2_with fail
  refine brg (S:=fun _=>True) trivial (fun hH=>?_);refine kA 0 12 hH ?_;refine kA 1 13 hH ?_;refine kA 2 14 hH ?_;refine kS 3 15 hH ?_;refine kS 4 16 hH ?_;refine kS 5 17 hH ?_;refine kS 6 18 hH ?_;refine kS 7 19 hH ?_;refine kS 8 20 hH ?_;refine kS 9 21 hH ?_;refine kA 10 22 hH ?_;refine kA 11 23 hH ?_;refine kS 12 24 hH ?_;refine kS 13 25 hH ?_;refine kS 14 26 hH ?_;refine kS 15 27 hH ?_;refine kS 16 28 hH ?_;refine kS 17 29 hH ?_;refine kS 18 30 hH ?_;refine kS 19 31 hH ?_;refine kS 20 32 hH ?_;refine kS 21 33 hH ?_;refine kA 22 34 hH ?_;refine dne ?_;go_wp2;go_ret2
  exact zE RES.out (zL _) b1.size (b1.drew.alloc b1.size _)
 | true =>
  obtain⟨hok,hne,htk,hte⟩:=HT2.out rfl;have HFT:Hid (∀ e∈es,e.key.size≤1000000000):=fun e he=>by have:=zaQ (zdn hok e he);omega
  have HNE:Hid (es≠[]):=hne;have hl3:=zad hok;have hlp:0<es.length:=List.length_pos_iff.2 hne;obtain⟨aU,cU,hvU,hU1,hU2,_⟩:=id ho1.rd;subst hvU;obtain⟨b,off,rfl,hc0⟩:=ho1.rd.at rfl 0 hlp;obtain⟨b',off',hb',hcl⟩:=ho1.rd.at rfl (es.length-1) (by omega);cases hb'
  obtain⟨m,hm⟩:∃ m,m=es.length-1:=⟨_,rfl⟩;rw[← hm] at hcl htk;rw[Nat.zero_mul,Nat.add_zero] at hc0;obtain⟨e0,he0⟩:∃ e0,e0=nth es 0:=⟨_,rfl⟩;obtain⟨el,hel⟩:∃ el,el=nth es m:=⟨_,rfl⟩;rw[← he0] at hc0 htk;rw[← hel] at hcl htk;have HR2:Hid (zT T=(decide (T.first=e0.key)&&decide (T.last=el.key)&&decide (T.bits=bitsL es))):=htk;have HTE:Hid (zT T=true→P=(es,true)):=fun h=>by rw[HPP.out,h,hte h]
  obtain⟨nn,hnn⟩:∃ nn,nn=es.length:=⟨_,rfl⟩;have HCK:Hid (∀ W,OwnE W (w.alloc (.cells #[.string T.first,.string T.last,vb,.slice ak kn ck] 56)).heap.size (.slice (some ⟨b,off,none⟩) nn cU) es→Calls Tryz.prog 62 #[.slice (some ⟨b,off,none⟩) nn cU] W fun e w'=>e=.returned (MV (mKeys es))∧Below W.heap.size W w'):=fun W h=>by rw[hnn] at h ⊢;exact zdJ _ es W h.rd HFT.out
  have HMK:Hid (mBits T.bits=mKeys es↔T.bits=bitsL es):=zmw hne;have hML:=zl9 es;have hBL:=mBits_lt T.bits;have HCM:Hid (∀ W,RdI W vb T.bits→Calls Tryz.prog 107 #[vb] W fun e w'=>e=.returned (MV (mBits T.bits))∧Below W.heap.size W w'):=fun W h=>zgg _ _ W h
  rw[← hnn] at ho1 ⊢;have hnm:(nn:Int)-1=(m:Int):=by omega
  have hwm:IntKind.i64.wrap (m:Int)=(m:Int):=by rw[IntKind.wrap_i64];omega
  have hmn:m<nn:=by omega
  have hn0:0<nn:=by omega
  have hn3:nn≤300:=by omega
  clear HF0 HT2 hok hne hnn hm he0 hel hl3 hlp hU1 htk hte HNE HFT HPP;obtain⟨t0,t1,t2,t3⟩:=id ht1;have KB1:=zbE T.first e0.key;have KB2:=zbE T.last el.key;cases hk1:kEq T.first e0.key with
  | false =>
   rw[hk1] at KB1;have RES:Hid (P=([],false)):=HNO.out (by rw[HR2.out];unfold kEq at hk1;rw[hk1];rfl);go_wp2_with fail
   refine brg (S:=fun w'=>(w'.cell? ⟨w.heap.size,0,none⟩=some (.string T.first)∧w'.cell? ⟨w.heap.size,1,none⟩=some (.string T.last)∧w'.cell? ⟨w.heap.size,2,none⟩=some vb)∧EntAt w' b off e0∧EntAt w' b (off+m*4) el) ⟨⟨t0,t1,t2⟩,hc0,hcl⟩ (fun hH=>?_);refine kA 0 12 hH ?_;refine kA 1 13 hH ?_;refine kA 2 14 hH ?_;refine kA 3 15 hH ?_;refine kA 4 16 hH ?_;refine kA 5 17 hH ?_;refine kA 6 18 hH ?_;refine kA 7 19 hH ?_;refine kA 8 20 hH ?_;refine kA 9 21 hH ?_;refine kA 10 22 hH ?_;refine kA 11 23 hH ?_;refine kS 12 24 hH ?_;refine kS 13 25 hH ?_;refine kS 14 26 hH ?_;refine kS 15 27 hH ?_;refine kS 16 28 hH ?_;refine kS 17 29 hH ?_;refine kS 18 30 hH ?_;refine kS 19 31 hH ?_;refine kS 20 32 hH ?_;refine kS 21 33 hH ?_;refine kA 22 34 hH ?_;refine dne ?_;go_wp2;go_ret2
   exact zE RES.out (zL _) b1.size (b1.drew.alloc b1.size _)
  | true =>
   rw[hk1] at KB1;cases hk2:kEq T.last el.key with
   | false =>
    rw[hk2] at KB2;have RES:Hid (P=([],false)):=HNO.out (by rw[HR2.out];unfold kEq at hk2;rw[hk2];simp);go_wp2_with fail
    refine brg (S:=fun w'=>(w'.cell? ⟨w.heap.size,0,none⟩=some (.string T.first)∧w'.cell? ⟨w.heap.size,1,none⟩=some (.string T.last)∧w'.cell? ⟨w.heap.size,2,none⟩=some vb)∧EntAt w' b off e0∧EntAt w' b (off+m*4) el) ⟨⟨t0,t1,t2⟩,hc0,hcl⟩ (fun hH=>?_);refine kA 0 12 hH ?_;refine kA 1 13 hH ?_;refine kA 2 14 hH ?_;refine kA 3 15 hH ?_;refine kA 4 16 hH ?_;refine kA 5 17 hH ?_;refine kA 6 18 hH ?_;refine kA 7 19 hH ?_;refine kA 8 20 hH ?_;refine kA 9 21 hH ?_;refine kA 10 22 hH ?_;refine kA 11 23 hH ?_;refine kA 12 24 hH ?_;refine kA 13 25 hH ?_;refine kA 14 26 hH ?_;refine kA 15 27 hH ?_;refine kA 16 28 hH ?_;refine kA 17 29 hH ?_;refine kA 18 30 hH ?_;refine kA 19 31 hH ?_;refine kA 20 32 hH ?_;refine kA 21 33 hH ?_;refine kA 22 34 hH ?_;refine dne ?_;go_wp2;go_ret2
    exact zE RES.out (zL _) b1.size (b1.drew.alloc b1.size _)
   | true =>
    rw[hk2] at KB2;have RES:Hid (zT T=decide (mBits T.bits=mKeys es)):=(by unfold Hid;rw[HR2.out];unfold kEq at hk1 hk2;rw[hk1,hk2];simp[HMK.out]);have hE:=zfx (mBits T.bits) (mKeys es) hBL hML;generalize decide (mBits T.bits=mKeys es)=r at hE RES;generalize mBits T.bits=M1 at hE HCM;generalize mKeys es=M2 at hE HCK;clear HMK hML hBL;go_wp2_with fail
    refine brg (S:=fun w'=>(w'.cell? ⟨w.heap.size,0,none⟩=some (.string T.first)∧w'.cell? ⟨w.heap.size,1,none⟩=some (.string T.last)∧w'.cell? ⟨w.heap.size,2,none⟩=some vb)∧EntAt w' b off e0∧EntAt w' b (off+m*4) el) ⟨⟨t0,t1,t2⟩,hc0,hcl⟩ (fun hH=>?_);have qo:OwnE w1.drew _ _ es:=ho1.drewN 1;have qb:=b1.drew;have qi:RdI w1.drew vb T.bits:=hi1.drewN 1;clear ho1 b1 hi1 ht1 t0 t1 t2 t3 hc0 hcl;revert qo;revert qb;revert qi;revert hH;generalize w1.drew=W0;intro hH qi qb qo;refine kA 0 12 hH ?_;refine kA 1 13 hH ?_;refine kA 2 14 hH ?_;refine kA 3 15 hH ?_;refine kA 4 16 hH ?_;refine kA 5 17 hH ?_;refine kA 6 18 hH ?_;refine kA 7 19 hH ?_;refine kA 8 20 hH ?_;refine kA 9 21 hH ?_;refine kA 10 22 hH ?_;refine kA 11 23 hH ?_;refine kA 12 24 hH ?_;refine kA 13 25 hH ?_;refine kA 14 26 hH ?_;refine kA 15 27 hH ?_;refine kA 16 28 hH ?_;refine kA 17 29 hH ?_;refine kA 18 30 hH ?_;refine kA 19 31 hH ?_;refine kA 20 32 hH ?_;refine kA 21 33 hH ?_;refine kA 22 34 hH ?_;refine dne ?_;obtain⟨⟨t0,t1,t2⟩,_⟩:=hH;obtain⟨ab,cb,hvb,_⟩:=id qi;generalize T.bits.length=bn at hvb;subst hvb;go_wp2_with fail
    refine(HCM.out _ qi).mono ?_;rintro e w3 ⟨rfl,hb3⟩;replace qb:=qb.trans (hb3.mono qb.size);replace qo:=qo.below hb3;clear hb3 qi t0 t1 t2 HCM;unfold MV;go_wp2_with fail
    refine(HCK.out _ qo).mono ?_;rintro e w4 ⟨rfl,hb4⟩;replace qb:=qb.trans (hb4.mono qb.size);replace qo:=qo.below hb4;clear hb4 HCK;unfold MV;cases r with
    | true =>
     have RES2:Hid (P=(es,true)):=HTE.out RES.out;clear RES;go_wp2;go_ret2
     exact zdf RES2.out qo (by simp) qb
    | false =>
     have RES2:Hid (P=([],false)):=HNO.out RES.out;clear RES;go_wp2;go_ret2
     exact zE RES2.out (zL _) qb.size (qb.alloc qb.size _)
end Go.Proofs.YtjlnchhgkfnldaaGreat
