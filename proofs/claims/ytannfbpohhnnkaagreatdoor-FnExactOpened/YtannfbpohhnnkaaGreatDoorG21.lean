import Derived.Test.YtannfbpohhnnkaaGreatDoorG20
import Derived.Test.YtannfbpohhnnkaaGreatDoorMrgSpec3
import Derived.RegionTactic
import Derived.ChangeAlike
import Derived.WalkMore
import Derived.Deep.LoopGhost
import Derived.Deep.DeepCutAuto
namespace Go.Proofs.YtannfbpohhnnkaaGreatDoor
set_option maxHeartbeats 16000000
set_option maxRecDepth 100000
open Go.RowKit
theorem zlW(P:Program)(w:World)(t:TypeId)(a:Addr)(n:String):(Builtin.ssaWrapNilChk_ #[t] t #[.pointer (some a),strVal "",strVal n]).run P w=.ok (.pointer (some a)) w:=rfl
theorem zcc{P:Program}{w:World}{t elem se:TypeId}{K b f:Nat}{v:Value}{name:String}(hm:((P.info? t).bind fun i=>i.methods.find? (·.name==name)).map (fun m=>(m.path,m.func))=some (#[],some (K,false)))
 (hu:P.underlying t=some (.pointer elem)) (he:P.underlying elem=some (.slice se)) (h:w.cell? ⟨b,0,none⟩=some v):(method (f+1) t (.pointer (some ⟨b,0,none⟩)) name).run P w=.ok (K,v) w:=by
 obtain⟨i,hi⟩:∃ i,P.info? t=some i:=by
  cases h:P.info? t with
  | none=>rw[h] at hm;simp at hm
  | some i=>exact⟨i,rfl⟩
 rw[hi] at hm;obtain⟨m,hm1⟩:∃ m,i.methods.find? (·.name==name)=some m:=by
  cases h:i.methods.find? (·.name==name) with
  | none=>simp only[Option.bind_some,h] at hm;simp at hm
  | some m=>exact⟨m,rfl⟩
 simp only[Option.bind_some,hm1,Option.map_some,Option.some.injEq,Prod.mk.injEq] at hm;have h2:=zlW P w t ⟨b,0,none⟩;simp[method,typeInfo,hi,hm1,hm.1,hm.2,follow,receiverAt,underlying,hu,he,Place.get,h2,asAddr,loadVar,isAgg,h,Result.andThen]
theorem m_Len(w:World)(b:Nat)(v:Value)(h:w.cell? ⟨b,0,none⟩=some v):(method 407 237 (.pointer (some ⟨b,0,none⟩)) "Len").run Tryz.prog w=.ok (222,v) w :=
 zcc (by kernel_rfl) Tryz.underlying237 Tryz.underlying239 h
theorem zmf(w:World)(b:Nat)(v:Value)(h:w.cell? ⟨b,0,none⟩=some v):(method 407 237 (.pointer (some ⟨b,0,none⟩)) "Less").run Tryz.prog w=.ok (277,v) w :=
 zcc (by kernel_rfl) Tryz.underlying237 Tryz.underlying239 h
theorem zkA(w:World)(b:Nat)(v:Value)(h:w.cell? ⟨b,0,none⟩=some v):(method 407 237 (.pointer (some ⟨b,0,none⟩)) "Swap").run Tryz.prog w=.ok (280,v) w :=
 zcc (by kernel_rfl) Tryz.underlying237 Tryz.underlying239 h
theorem m_Push(w:World)(b:Nat):(method 407 237 (.pointer (some ⟨b,0,none⟩)) "Push").run Tryz.prog w=.ok (279,.pointer (some ⟨b,0,none⟩)) w:=by kernel_rfl
theorem m_Pop(w:World)(b:Nat):(method 407 237 (.pointer (some ⟨b,0,none⟩)) "Pop").run Tryz.prog w=.ok (278,.pointer (some ⟨b,0,none⟩)) w:=by kernel_rfl
theorem Tryz.info263:(Tryz.prog.info? 263).map (fun i=>(i.zero,i.size,i.bytes))=some (some (.agg #[.slice none 0 0,.int .i64 0]),2,32):=by kernel_rfl
def HCs(s:Src):List Value:=[s.v,.int .i64 s.no]
def HV(hs:List Src):List Value:=hs.flatMap HCs
theorem ze2:∀ hs:List Src,(HV hs).length=hs.length*2
 | []=>rfl
 | a::r=>by
  have:=ze2 r;unfold HV at this ⊢;rw[List.flatMap_cons,List.length_append,this,List.length_cons];simp[HCs];omega
theorem zjN(a b:List Src):HV (a++b)=HV a++HV b:=by simp[HV]
theorem HV_one(s:Src):HV [s]=HCs s:=by simp[HV]
theorem zfJ(a:Src)(r:List Src):HV (a::r)=HCs a++HV r:=by simp[HV]
theorem sN_zero(a:Src)(r:List Src):sN (a::r) 0=a:=rfl
theorem sN_succ(a:Src)(r:List Src)(i:Nat):sN (a::r) (i+1)=sN r i:=rfl
theorem HV_get:∀ (hs:List Src) (i:Nat),i<hs.length→∀ j,j<2→(HV hs)[i*2+j]? = (HCs (sN hs i))[j]?
 | [],i,h,_,_=>by simp at h
 | a::r,0,_,j,hj=>by
  rw[zfJ,sN_zero,Nat.zero_mul,Nat.zero_add,List.getElem?_append_left (by simp[HCs];exact hj)]
 | a::r,i+1,h,j,hj=>by
  rw[zfJ,sN_succ,← HV_get r i (by simpa using h) j hj,List.getElem?_append_right (by simp[HCs];omega)];congr 1
  simp[HCs];omega
theorem zoo:∀ (hs:List Src) (i:Nat) (s:Src),i<hs.length→HV (hs.set i s)=((HV hs).set (i*2) s.v).set (i*2+1) (.int .i64 s.no)
 | [],i,s,h=>by simp at h
 | a::r,0,s,_=>by
  rw[List.set_cons_zero,zfJ,zfJ];simp[HCs]
 | a::r,i+1,s,h=>by
  rw[List.set_cons_succ,zfJ,zfJ,zoo r i s (by simpa using h)];have e1:(i+1)*2=i*2+2:=by omega
  rw[e1];simp[HCs]
def SrcAt(w:World)(b o:Nat)(s:Src):Prop:=w.cell? ⟨b,o,none⟩=some s.v∧w.cell? ⟨b,o+1,none⟩=some (.int .i64 s.no)
theorem SrcAt.lt{w:World}{b o:Nat}{s:Src}(h:SrcAt w b o s):b<w.heap.size:=World.block_lt_of_cell? w _ h.1
theorem SrcAt.of_block{w w':World}{b o:Nat}{s:Src}(h:SrcAt w b o s)(hb:w'.heap[b]? = w.heap[b]?):SrcAt w' b o s :=
 ⟨(World.cell?_of_block (a:=⟨b,o,none⟩) hb).trans h.1,(World.cell?_of_block (a:=⟨b,o+1,none⟩) hb).trans h.2⟩
theorem SrcAt.below{w w':World}{b o:Nat}{s:Src}(h:SrcAt w b o s)(hb:Below w.heap.size w w'):SrcAt w' b o s:=h.of_block (hb.block b h.lt)
def OwnH(w:World)(base:Nat)(v:Value)(hs:List Src):Prop:=w.ownsRow base 263 2 v hs.length (HV hs)
theorem zhh{w:World}{base g cap n:Nat}{hs:List Src}(h:OwnH w base (.slice (some ⟨g,0,none⟩) n cap) hs)(i:Nat)(hi:i<hs.length):SrcAt w g (i*2) (sN hs i):=by
 have hn:n=hs.length:=by
  rcases h.2 with ⟨h0,_⟩ | ⟨g',cap',cur,hv,_⟩
  ·cases h0
  ·simp only[Value.slice.injEq] at hv;exact hv.2.1
 subst hn;have c:∀ j,j<2→w.cell? ⟨g,i*2+j,none⟩=(HCs (sN hs i))[j]?:=fun j hj=>(World.ownsRow.cellAt h (i*2+j) (by omega)).trans (HV_get hs i hi j hj)
 exact⟨c 0 (by omega),c 1 (by omega)⟩
theorem zeb{w:World}{base:Nat}{v:Value}{hs:List Src}(h:OwnH w base v hs)(h0:0<hs.length):∃ g cap,v=.slice (some ⟨g,0,none⟩) hs.length cap∧hs.length≤cap∧cap≤maxLen:=by
 rcases h.2 with ⟨_,h1⟩ | ⟨g,cap,cur,hv,_,_,h2,h3,_⟩
 ·omega
 ·exact⟨g,cap,hv,h2,h3⟩
theorem zgn{w:World}{base:Nat}{v:Value}{hs:List Src}(h:OwnH w base v hs):∃ a cap,v=.slice a hs.length cap∧hs.length≤cap∧cap≤maxLen:=by
 rcases h.2 with ⟨hv,h1⟩ | ⟨g,cap,cur,hv,_,_,h2,h3,_⟩
 ·exact⟨none,0,by rw[hv,h1],by omega,Nat.zero_le _⟩
 ·exact⟨_,cap,hv,h2,h3⟩
theorem OwnH.below{w w':World}{base:Nat}{v:Value}{hs:List Src}(h:OwnH w base v hs)(hb:Below w.heap.size w w'):OwnH w' base v hs:=zaB h hb
structure Hp (w0 w:World) (sb:Nat) (v:Value) (hs:List Src):Prop where
 bel:Below w0.heap.size w0 w
 ge:w0.heap.size≤sb
 box:w.heap[sb]? = some (.cells #[v] 239 (0,0))
 own:OwnH w w0.heap.size v hs
 ne:∀ k,v.ownBlock=some k→k≠sb
 rd:∀ s∈hs,RdE w0 s.v s.es∧s.es≠[]
 few:hs.length≤20
theorem Hp.cell{w0 w:World}{sb:Nat}{v:Value}{hs:List Src}(h:Hp w0 w sb v hs):w.cell? ⟨sb,0,none⟩=some v:=by simp[World.cell?,h.box]
theorem Hp.lt{w0 w:World}{sb:Nat}{v:Value}{hs:List Src}(h:Hp w0 w sb v hs):sb<w.heap.size:=World.block_lt_of_cell? w _ h.cell
theorem Hp.below{w0 w w':World}{sb:Nat}{v:Value}{hs:List Src}(h:Hp w0 w sb v hs)(hb:Below w.heap.size w w'):Hp w0 w' sb v hs :=
 ⟨h.bel.trans (hb.mono h.bel.size),h.ge,(hb.block sb h.lt).trans h.box,h.own.below hb,h.ne,h.rd,h.few⟩
structure Hop (w:World) (v:Value) (sb:Nat) (w':World) (v':Value):Prop where
 size:w.heap.size≤w'.heap.size
 block:∀ k,k<w.heap.size→k≠sb→v.ownBlock≠some k→w'.heap[k]? = w.heap[k]?
 row:∀ k,v'.ownBlock=some k→v.ownBlock=some k∨w.heap.size≤k
theorem Hop.refl(w:World)(v:Value)(sb:Nat):Hop w v sb w v:=⟨Nat.le_refl _,fun _ _ _ _=>rfl,fun _ h=>.inl h⟩
theorem Hop.trans{w w1 w2:World}{v v1 v2:Value}{sb:Nat}(h:Hop w v sb w1 v1)(k:Hop w1 v1 sb w2 v2):Hop w v sb w2 v2 :=
 ⟨Nat.le_trans h.size k.size,fun i hi hs hv=>(k.block i (Nat.lt_of_lt_of_le hi h.size) hs (fun e=>by
  rcases h.row i e with e | e
  ·exact hv e
  ·omega)).trans (h.block i hi hs hv),
  fun i hi=>by
   rcases k.row i hi with e | e
   ·exact h.row i e
   ·exact .inr (Nat.le_trans h.size e)⟩
theorem Hop.below{w w':World}{v:Value}{sb:Nat}(h:Below w.heap.size w w'):Hop w v sb w' v:=⟨h.size,fun k hk _ _=>h.block k hk,fun _ h=>.inl h⟩
theorem ltT_ord(x y:Ent)(i j:Nat):(if ordE x y≠0 then ordE x y else cmpI i j)<0↔ltT x i y j=true:=by
 rw[zck];by_cases h:ordE x y=0
 ·rw[if_neg (by simpa using h),(zds x y).1 h];have h2:¬ ahd x y=true:=fun e=>by have:=(zgu x y).2 e;omega
  simp only[h2,true_and];unfold cmpI;split
  ·simp;omega
  ·split
   ·simp;omega
   ·simp;omega
 ·rw[if_pos h,zgu];have h2:¬ zz x y=true:=fun e=>h ((zds x y).2 e)
  simp[h2]
open Go.RowKit
theorem zom(x:Int)(w:World):Calls Tryz.prog 282 #[.int .i64 x] w fun e w'=>e=.returned (.bool false)∧w'=w:=by
 have hx:(x != x)=false:=by simp
 go_enter Tryz.func282,Tryz.ntmps282
 go_wp2;go_ret;exact⟨rfl,rfl⟩
theorem cmpN_any(a b:Int)(w:World):Calls Tryz.prog 281 #[.int .i64 a,.int .i64 b] w fun e w'=>e=.returned (.int .i64 (cmpI a b))∧w'=w:=by
 go_enter Tryz.func281,Tryz.ntmps281
 go_wp2_with (go_at_call 282;refine(zom _ _).mono ?_;rintro e w' ⟨rfl,rfl⟩)
 all_goals go_ret
 all_goals exact⟨zcT (by unfold cmpI;first | rw[if_pos ‹_›] | (rw[if_neg (by omega)];first | rw[if_pos ‹_›] | rw[if_neg (by omega)])),rfl⟩
theorem two_new(w:World)(x y:Value)(t:TypeId):(w.alloc (.cells #[x,y] t)).cell? ⟨w.heap.size,0,none⟩=some x∧(w.alloc (.cells #[x,y] t)).cell? ⟨w.heap.size,1,none⟩=some y:=by
 constructor<;>simp[World.cell?_alloc_at]
theorem zp1(x y:Ent) : -1≤ordE x y∧ordE x y≤1:=by
 unfold ordE;split
 ·exact zpt _ _
 ·exact zlH _ _
theorem Hp.src{w0 w:World}{sb:Nat}{v:Value}{hs:List Src}(h:Hp w0 w sb v hs){i:Nat}(hi:i<hs.length) :
 ∃ b off n cap x r,(sN hs i).v=.slice (some ⟨b,off,none⟩) (n+1) cap∧(sN hs i).es=x::r∧n=r.length∧n+1≤cap∧cap≤maxLen∧EntAt w b off x∧(sN hs i).hd=x:=by
 obtain⟨hr,hne⟩:=h.rd _ (zkI hi);cases he:(sN hs i).es with
 | nil=>exact absurd he hne
 | cons x r =>
  rw[he] at hr;obtain⟨b,off,n,cap,hv,hn,h1,h2,hx⟩:=zjI hr;exact⟨b,off,n,cap,x,r,hv,rfl,hn,h1,h2,hx.of_block (h.bel.block b hx.lt),by unfold Src.hd;rw[he,zbs]⟩
theorem zaw(i d:Nat){P:Program}{ops:Array Oper}{Q:Exit→Act→World→Prop}{md:Region.Mode}{S:World→Prop}{oi:Oper}{v:Value}{fuel:Nat}{listed:Array Bool}{a a':Act}{w:World}(hS:S w)(h:wpAnyH P md ops (NoPanic Q) S fuel (listed.setIfInBounds i true) a' w)(hi:ops[i]? = some oi:=by rfl)(hd:oi.dst=some d:=by rfl)(hs:Region.noSelect ops=true:=by kernel_rfl)(hf:Region.free md ops listed i=true:=by kernel_rfl)(hr:(Region.ready md ops listed).contains i=true:=by kernel_rfl)(hw:Region.wanted oi (yielded ops a.tmps)=true:=by kernel_rfl)(hy:∀ w,S w→(execOp a.eval oi).run P w=.ok (.value v) w:=by intro w hS;(try dsimp only[EntAt,SrcAt,Nat.zero_add] at hS);go_simp;(try with_reducible rfl))(ha:a.put (some d) v=a':=by (try simp only[Act.put,sA,sZ,sS]);(try rfl)):wpAnyH P md ops (NoPanic Q) S (fuel+1) listed a w:=takeH hi hd hs hf hr (fun _ _ _ h=>h) (Or.inl ⟨hw,hy⟩) hS (ha ▸ h)
theorem less_any(w0 w:World)(sb:Nat)(v:Value)(hs:List Src)(i j:Nat)(h:Hp w0 w sb v hs)(hi:i<hs.length)(hj:j<hs.length) :
 Calls Tryz.prog 277 #[v,.int .i64 i,.int .i64 j] w fun e w'=>e=.returned (.bool (lessS (sN hs i) (sN hs j)))∧Below w.heap.size w w':=by
 obtain⟨g,cap,hv,hlc,hcm⟩:=zeb h.own (by omega);have hown:=h.own;rw[hv] at hown;have ha:=zhh hown i hi;have hb:=zhh hown j hj;obtain⟨ba,oa,na,ca,x,ra,hva,_,_,hca,hma,hxa,hha⟩:=h.src hi;obtain⟨bb,ob,nb,cb,y,rb,hvb,_,_,hcb,hmb,hxb,hhb⟩:=h.src hj;have RES:Hid (∀ z,z=(if ordE x y≠0 then ordE x y else cmpI (sN hs i).no (sN hs j).no)→decide (z<0)=lessS (sN hs i) (sN hs j)):=by
  intro z hz;have:=ltT_ord x y (sN hs i).no (sN hs j).no;unfold lessS;rw[hz,Bool.eq_iff_iff,decide_eq_true_eq,hha,hhb];exact this
 obtain⟨k1,k2⟩:=ha;obtain⟨k3,k4⟩:=hb;rw[hva] at k1;rw[hvb] at k3;obtain⟨L,hL⟩:∃ L,L=lessS (sN hs i) (sN hs j):=⟨_,rfl⟩;rw[← hL] at RES ⊢;generalize (sN hs i).no=ia at k2 RES;generalize (sN hs j).no=ib at k4 RES;obtain⟨n,hn⟩:∃ n,n=hs.length:=⟨_,rfl⟩;rw[← hn] at hv hlc hi hj;subst hv;unfold maxLen at hcm hma hmb;have bx:=zp1 x y;have hy1:=zlH ia ib;obtain⟨z,hz⟩:∃ z,z=(if ordE x y≠0 then ordE x y else cmpI ia ib):=⟨_,rfl⟩;have HZ:Hid (z=(if ordE x y≠0 then ordE x y else cmpI ia ib)):=hz;have HR:=RES.out z hz;have HRH:Hid (decide (z<0)=L):=HR;have HCO:Hid (∀ W,Calls Tryz.prog 200 #[.agg #[.string x.key,.string x.val,.int .i64 x.seq,.bool x.gone],.agg #[.string y.key,.string y.val,.int .i64 y.seq,.bool y.gone]] W fun e w'=>e=.returned (.int .i64 (ordE x y))∧Below W.heap.size W w'):=fun W=>zaq x y W
 have hic:i<cap:=by omega
 have hjc:j<cap:=by omega
 clear hz HR RES hL hn h hown hha hhb hva hvb;generalize ordE x y=oxy at bx HZ HCO;go_enter Tryz.func277,Tryz.ntmps277
 go_wp2_with fail
 refine wp_region_noPanic ?_;refine wp_region_held_drew (S:=fun W=>SrcAt W g (i*2) ⟨.slice (some ⟨ba,oa,none⟩) (na+1) ca,[],ia⟩∧SrcAt W g (j*2) ⟨.slice (some ⟨bb,ob,none⟩) (nb+1) cb,[],ib⟩∧EntAt W ba oa x∧EntAt W bb ob y) (by kernel_rfl) ⟨⟨k1,k2⟩,⟨k3,k4⟩,hxa,hxb⟩ (fun hH=>?_);refine zaw 0 7 hH ?_;refine zaw 1 8 hH ?_;refine zaw 2 9 hH ?_;refine zaw 3 10 hH ?_;refine zaw 4 11 hH ?_;refine zaw 5 12 hH ?_;refine zaw 6 13 hH ?_;refine zaw 7 14 hH ?_;refine zaw 8 15 hH ?_;refine zaw 9 16 hH ?_;refine zaw 10 17 hH ?_;refine zaw 11 18 hH ?_;refine zaw 12 19 hH ?_;refine zaw 13 20 hH ?_;refine zaw 15 22 hH ?_;refine zaw 16 23 hH ?_;refine zaw 17 24 hH ?_;refine zaw 18 25 hH ?_;refine zaw 19 26 hH ?_;refine zaw 20 27 hH ?_;refine zaw 21 28 hH ?_;refine zaw 22 29 hH ?_;refine zaw 23 30 hH ?_;refine zaw 24 31 hH ?_;refine rdy 14 (fun K hK=>?_);go_simp;refine(HCO.out _).mono ?_;rintro e w3 ⟨rfl,hb3⟩;refine hK.out _ _ ⟨hH.1.below hb3,hH.2.1.below hb3,hH.2.2.1.below hb3,hH.2.2.2.below hb3⟩ (fun hB=>?_);clear hK K;try simp only[Act.put,sA,sZ,sS]
 clear hH;refine rdy 25 (fun K hK=>?_);go_simp;refine(cmpN_any _ _ _).mono ?_;rintro e w4 ⟨rfl,rfl⟩;refine hK.out _ _ hB (fun hB2=>?_);clear hK K;try simp only[Act.put,sA,sZ,sS]
 clear hB;refine rdy 26 (fun K hK=>?_);go_simp;have bN:=za w4 (.cells #[.int .i64 oxy,.int .i64 (cmpI ia ib)] 3);obtain⟨z0,z1⟩:=two_new w4 (.int .i64 oxy) (.int .i64 (cmpI ia ib)) 3;refine hK.out _ _ ⟨hB2.1.below bN,hB2.2.1.below bN,hB2.2.2.1.below bN,hB2.2.2.2.below bN⟩ (fun hB3=>?_);clear hK K;try simp only[Act.put,sA,sZ,sS]
 clear hB2;refine rdy 27 (fun K hK=>?_);go_simp;refine(or_at oxy (cmpI ia ib) z _ _ HZ.out z0 z1 bx hy1).mono ?_;rintro e w5 ⟨rfl,rfl⟩;refine hK.out _ _ hB3 (fun hB4=>?_);clear hK K;try simp only[Act.put,sA,sZ,sS]
 clear hB3;refine zaw 28 35 hB4 ?_;refine zaw 29 6 hB4 ?_;refine dne ?_;have bF:Below w.heap.size w (w4.alloc (.cells #[.int .i64 oxy,.int .i64 (cmpI ia ib)] 3)):=(((Below.refl w.heap.size w).drew).trans hb3).trans (bN.mono hb3.size);clear hB4 z0 z1 bN hb3;go_wp2;go_ret;exact⟨zF HRH.out,bF⟩
open Go.RowKit
theorem swap_row{w:World}{base g n cap:Nat}{hs:List Src}{i j:Nat}(hown:OwnH w base (.slice (some ⟨g,0,none⟩) n cap) hs)(hi:i<hs.length)(hj:j<hs.length) :
 OwnH ((((w.setCell ⟨g,i*2,none⟩ (sN hs j).v).setCell ⟨g,i*2+1,none⟩ (.int .i64 (sN hs j).no)).setCell ⟨g,j*2,none⟩ (sN hs i).v).setCell ⟨g,j*2+1,none⟩ (.int .i64 (sN hs i).no)) base (.slice (some ⟨g,0,none⟩) n cap) (swapS hs i j) ∧
 w.grownBy ((((w.setCell ⟨g,i*2,none⟩ (sN hs j).v).setCell ⟨g,i*2+1,none⟩ (.int .i64 (sN hs j).no)).setCell ⟨g,j*2,none⟩ (sN hs i).v).setCell ⟨g,j*2+1,none⟩ (.int .i64 (sN hs i).no)) (some g):=by
 have hn:n=hs.length:=by
  rcases hown.2 with ⟨h0,_⟩ | ⟨g',cap',cur,hv,_⟩
  ·cases h0
  ·simp only[Value.slice.injEq] at hv;exact hv.2.1
 subst hn;have r1:=World.ownsRow.stored hown (i*2) (sN hs j).v;have r2:=World.ownsRow.stored r1.1 (i*2+1) (.int .i64 (sN hs j).no);have r3:=World.ownsRow.stored r2.1 (j*2) (sN hs i).v;have r4:=World.ownsRow.stored r3.1 (j*2+1) (.int .i64 (sN hs i).no);have tr:∀ {a b c:World},a.grownBy b (some g)→b.grownBy c (some g)→a.grownBy c (some g):=fun h k =>
  ⟨k.os.trans h.os,k.tape.trans h.tape,k.output.trans h.output,Nat.le_trans h.size k.size,fun i hi hr=>(k.block i (Nat.lt_of_lt_of_le hi h.size) hr).trans (h.block i hi hr)⟩
 refine⟨?_,tr (tr (tr r1.2 r2.2) r3.2) r4.2⟩;have e:HV (swapS hs i j)=((((HV hs).set (i*2) (sN hs j).v).set (i*2+1) (.int .i64 (sN hs j).no)).set (j*2) (sN hs i).v).set (j*2+1) (.int .i64 (sN hs i).no):=by
  unfold swapS;rw[zoo _ j _ (by simpa using hj),zoo _ i _ hi]
 unfold OwnH;rw[e,zbO];exact r4.1
theorem swap_any(w:World)(base g n cap:Nat)(hs:List Src)(i j:Nat)(hown:OwnH w base (.slice (some ⟨g,0,none⟩) n cap) hs)(hi:i<hs.length)(hj:j<hs.length)(hsl:∀ s∈hs,∃ a n c,s.v=.slice a n c) :
 Calls Tryz.prog 280 #[.slice (some ⟨g,0,none⟩) n cap,.int .i64 i,.int .i64 j] w fun e w'=>e=.returned (.tuple #[])∧OwnH w' base (.slice (some ⟨g,0,none⟩) n cap) (swapS hs i j)∧w.grownBy w' (some g):=by
 obtain⟨g',cap',hv',hlc,hcm⟩:=zeb hown (by omega);simp only[Value.slice.injEq] at hv';obtain⟨-,hn,hcc⟩:=hv';rw[← hcc] at hlc hcm;have hso:=hown;unfold OwnH at hso;rw[hn] at hso;obtain⟨k1,k2⟩:=zhh hown i hi;obtain⟨k3,k4⟩:=zhh hown j hj;have f1:=World.ownsRow.frozenAt hso (i*2);have f2:=World.ownsRow.frozenAt hso (i*2+1);have f3:=World.ownsRow.frozenAt hso (j*2);have f4:=World.ownsRow.frozenAt hso (j*2+1);have R:=swap_row hown hi hj;obtain⟨a1,n1,c1,hva⟩:=hsl _ (zkI hi);obtain⟨a2,n2,c2,hvb⟩:=hsl _ (zkI hj);rw[hva] at k1 R;rw[hvb] at k3 R;generalize hs':swapS hs i j=hs2 at R;obtain⟨na,hna⟩:∃ na,na=(sN hs i).no:=⟨_,rfl⟩;obtain⟨nb,hnb⟩:∃ nb,nb=(sN hs j).no:=⟨_,rfl⟩;rw[← hna] at k2 R;rw[← hnb] at k4 R;have HR:Hid (_∧_):=R;have hic:i<n:=by omega
 have hjc:j<n:=by omega
 have hnc:n≤cap:=by omega
 unfold maxLen at hcm;by_cases hij:i=j
 ·subst hij;have e1:a2=a1∧n2=n1∧c2=c1:=by rw[hva] at hvb;simp only[Value.slice.injEq] at hvb;exact⟨hvb.1.symm,hvb.2.1.symm,hvb.2.2.symm⟩
  obtain⟨rfl,rfl,rfl⟩:=e1;obtain rfl:nb=na:=by rw[hna,hnb]
  clear hso hown hsl R hna hnb hva hvb hs' hn hcc hlc hi hj;go_enter Tryz.func280,Tryz.ntmps280
  go_wp2;go_region
  all_goals (go_end0;exact⟨rfl,HR.out.1,gr_dr HR.out.2⟩)
 ·have hji:¬ j=i:=fun e=>hij e.symm
  clear hso hown hsl R hna hnb hva hvb hs' hn hcc hlc hi hj;go_enter Tryz.func280,Tryz.ntmps280
  go_wp2;go_region
  all_goals (go_end0;exact⟨rfl,HR.out.1,gr_dr HR.out.2⟩)
where
 gr_dr {a w:World} {row:Option Nat} (h:a.grownBy w row):a.grownBy w.drew row:=⟨h.os,h.tape,h.output,h.size,h.block⟩
open Go.RowKit
theorem Hp.slices{w0 w:World}{sb:Nat}{v:Value}{hs:List Src}(h:Hp w0 w sb v hs):∀ s∈hs,∃ a n c,s.v=.slice a n c:=fun s hs=>by
 obtain⟨a,cap,hv,_⟩:=(h.rd s hs).1;exact⟨a,_,cap,hv⟩
theorem Hp.swapped{w0 w w':World}{sb g n cap:Nat}{hs hs2:List Src}(h:Hp w0 w sb (.slice (some ⟨g,0,none⟩) n cap) hs)(ho:OwnH w' w0.heap.size (.slice (some ⟨g,0,none⟩) n cap) hs2)(hg:w.grownBy w' (some g))(hp:hs2.Perm hs) :
 Hp w0 w' sb (.slice (some ⟨g,0,none⟩) n cap) hs2∧Hop w (.slice (some ⟨g,0,none⟩) n cap) sb w' (.slice (some ⟨g,0,none⟩) n cap):=by
 have hgs:g≠sb:=h.ne g rfl;have hgB:w0.heap.size≤g:=(World.ownsRow.lt h.own g rfl).1;refine⟨⟨h.bel.grown hg h.bel.size (fun k hk=>by cases hk;exact hgB),h.ge,(hg.block sb h.lt (fun e=>hgs (by simpa using e.symm))).trans h.box,ho,h.ne,fun s hs=>h.rd s (hp.mem_iff.1 hs),by rw[hp.length_eq];exact h.few⟩,⟨hg.size,fun k hk _ hv=>hg.block k hk (fun e=>hv (by rw[e];rfl)),fun _ h=>.inl h⟩⟩
theorem zo9(w0 w:World)(sb:Nat)(v:Value)(hs:List Src)(i j:Nat)(h:Hp w0 w sb v hs)(hi:i<hs.length)(hj:j<hs.length) :
 Calls Tryz.prog 280 #[v,.int .i64 i,.int .i64 j] w fun e w'=>e=.returned (.tuple #[])∧Hp w0 w' sb v (swapS hs i j)∧Hop w v sb w' v:=by
 obtain⟨g,cap,hv,_,_⟩:=zeb h.own (by omega);have hown:=h.own;generalize hs.length=n at hv;subst hv;refine(swap_any w _ g n cap hs i j hown hi hj h.slices).mono ?_;rintro e w' ⟨he,ho,hg⟩;exact⟨he,h.swapped ho hg (zbw hi hj)⟩
theorem zcd(w0 w:World)(sb:Nat)(v:Value)(hs:List Src)(i j:Nat)(x y:Int)(L:Bool)(hx:x=(i:Int))(hy:y=(j:Int))(h:Hp w0 w sb v hs)(hi:i<hs.length)(hj:j<hs.length)(hL:lessS (sN hs i) (sN hs j)=L) :
 Calls Tryz.prog 277 #[v,.int .i64 x,.int .i64 y] w fun e w'=>e=.returned (.bool L)∧Below w.heap.size w w':=by
 subst hx;subst hy;subst hL;exact less_any w0 w sb v hs i j h hi hj
theorem zeH(w0 w:World)(sb:Nat)(v:Value)(hs:List Src)(i j:Nat)(x y:Int)(hx:x=(i:Int))(hy:y=(j:Int))(h:Hp w0 w sb v hs)(hi:i<hs.length)(hj:j<hs.length) :
 Calls Tryz.prog 280 #[v,.int .i64 x,.int .i64 y] w fun e w'=>e=.returned (.tuple #[])∧Hp w0 w' sb v (swapS hs i j)∧Hop w v sb w' v:=by
 subst hx;subst hy;exact zo9 w0 w sb v hs i j h hi hj
def zmE(w0 w:World)(sb:Nat)(v:Value)(hs:List Src)(e:Ending)(w':World):Prop :=
 ∃ hs',e=.returned (.tuple #[])∧Hp w0 w' sb v hs'∧hs'.Perm hs∧HP hs' hs'.length∧Hop w v sb w' v
theorem up_any(w0 w:World)(sb:Nat)(v:Value)(hs:List Src)(j:Nat)(h:Hp w0 w sb v hs)(hj:j<hs.length)(hu:upOk hs j) :
 Calls Tryz.prog 254 #[.iface 237 (.pointer (some ⟨sb,0,none⟩)),.int .i64 j] w fun e w'=>zmE w0 w sb v hs e w':=by
 have hf:=h.few;go_enter Tryz.func254,Tryz.ntmps254
 go_wp2;go_loopw [1] (fun jv wr=>∃ (jn:Nat) (hs1:List Src),jv=.int .i64 jn∧jn<hs1.length∧jn≤20∧Hp w0 wr sb v hs1∧Hid (hs1.Perm hs)∧Hid (upOk hs1 jn)∧Hop w v sb wr v) (fun jv _=>(intOf jv).toNat)
 case atStart=>exact⟨j,hs,rfl,hj,by omega,h,List.Perm.refl _,hu,Hop.refl _ _ _⟩
 case round =>
  obtain⟨jn,hs1,rfl,hj1,hj20,h1,HPM,HUO,hop⟩:=hrel;clear h hu hj;cases jn with
  | zero =>
   have HE:Hid (zmE w0 w sb v hs (.returned (.tuple #[])) wr):=⟨hs1,rfl,h1,HPM.out,up_zero HUO.out,hop⟩;clear h1 hop;go_wp2;go_end0
   exact HE.out
  | succ m =>
   obtain⟨i,hi⟩:∃ i,i=m / 2:=⟨_,rfl⟩;have hii:i<hs1.length:=by omega
   have him:i<m+1:=by omega
   have hpi:(m+1-1) / 2=i:=by omega
   have HI:Hid (i=m / 2):=hi;have hq:=zmf wr sb v h1.cell;cases hl:lessS (sN hs1 (m+1)) (sN hs1 i) with
   | true =>
    have HUO2:Hid (upOk (swapS hs1 i (m+1)) i):=by
     have:=up_step hj1 (by omega) HUO.out (by rw[hpi];exact hl);rw[hpi] at this;exact this
    have HPM2:Hid ((swapS hs1 i (m+1)).Perm hs):=(zbw hii hj1).trans HPM.out;go_wp2_with fail
    refine(zcd w0 _ sb v hs1 (m+1) i _ _ true ?e1 ?e2 h1 hj1 hii hl).mono ?_
    case e1=>omega
    case e2=>omega
    rintro e w2 ⟨rfl,hb2⟩;have h2:=h1.below hb2;have hop2:=hop.trans (Hop.below hb2);have hq2:=zkA w2 sb v h2.cell;clear h1 hop hb2 hq;go_wp2_with fail
    refine(zeH w0 _ sb v hs1 i (m+1) _ _ ?e3 ?e4 h2 hii hj1).mono ?_
    case e3=>omega
    case e4=>omega
    rintro e w3 ⟨rfl,h3,hop3⟩;have hop4:=hop2.trans hop3;clear h2 hop2 hop3 hq2;go_wp2;go_roundw
    case rel=>exact⟨i,_,by first | rfl | go_num | (congr 1;omega),by rw[zbO];exact hii,by omega,h3,HPM2,HUO2,hop4⟩
    case measure=>simp[intOf];omega
   | false =>
    go_wp2_with fail
    refine(zcd w0 _ sb v hs1 (m+1) i _ _ false ?e1 ?e2 h1 hj1 hii hl).mono ?_
    case e1=>omega
    case e2=>omega
    rintro e w2 ⟨rfl,hb2⟩;have HE:Hid (zmE w0 w sb v hs (.returned (.tuple #[])) w2):=⟨hs1,rfl,h1.below hb2,HPM.out,up_stop HUO.out (by rw[hpi];exact hl),hop.trans (Hop.below hb2)⟩;clear h1 hop hb2 hq;go_wp2;go_end0
    exact HE.out
def zkg(w0 w:World)(sb:Nat)(v:Value)(hs:List Src)(n:Nat)(e:Ending)(w':World):Prop :=
 ∃ hs' b,e=.returned (.bool b)∧Hp w0 w' sb v hs'∧hs'.Perm hs∧(∀ k,n≤k→sN hs' k=sN hs k)∧HP hs' n∧Hop w v sb w' v
theorem down_any(w0 w:World)(sb:Nat)(v:Value)(hs:List Src)(n:Nat)(x:Int)(hx:x=(n:Int))(h:Hp w0 w sb v hs)(hn:n<hs.length)(hu:dnOk hs 0 n) :
 Calls Tryz.prog 255 #[.iface 237 (.pointer (some ⟨sb,0,none⟩)),.int .i64 0,.int .i64 x] w fun e w'=>zkg w0 w sb v hs n e w':=by
 subst hx;have hf:=h.few;go_enter Tryz.func255,Tryz.ntmps255
 go_wp2;go_loopw [7] (fun jv wr=>∃ (i:Nat) (hs1:List Src),jv=.int .i64 i∧i≤20∧i≤n∧n<hs1.length∧Hp w0 wr sb v hs1∧Hid (hs1.Perm hs)∧Hid (∀ k,n≤k→sN hs1 k=sN hs k)∧Hid (dnOk hs1 i n)∧Hop w v sb wr v) (fun jv _=>n-(intOf jv).toNat)
 case atStart=>exact⟨0,hs,rfl,by omega,by omega,hn,h,List.Perm.refl _,(fun k _=>rfl),hu,Hop.refl _ _ _⟩
 case round =>
  obtain⟨i,hs1,rfl,hi20,hin,hn1,h1,HPM,HTL,HUO,hop⟩:=hrel;clear h hu hn;by_cases hj:n≤2*i+1
  ·skip
   have HE:Hid (∀ b,zkg w0 w sb v hs n (.returned (.bool b)) wr):=fun b=>⟨hs1,b,rfl,h1,HPM.out,HTL.out,dn_end HUO.out hj,hop⟩
   have hj2:(n:Int)≤2*(i:Int)+1:=by omega
   clear h1 hop;go_wp2;go_ret;exact HE.out _
  ·skip
   have hj2:¬ (n:Int)≤2*(i:Int)+1:=by omega
   have hj3:¬ 2*(i:Int)+1<0:=by omega
   have hn20:n≤20:=by have:=h1.few;omega
   have hq:=zmf wr sb v h1.cell;by_cases hr:2*i+2<n
   ·have hr2:2*(i:Int)+1+1<(n:Int):=by omega
    cases hb:lessS (sN hs1 (2*i+2)) (sN hs1 (2*i+1)) with
    | true =>
     have HC:Hid (∀ k,k<n→k=2*i+1∨k=2*i+2→lessS (sN hs1 k) (sN hs1 (2*i+2))=false):=fun k _ hk=>by
      rcases hk with rfl | rfl
      ·exact zcL hb
      ·exact zcp _ _
     go_wp2_with fail
     refine(zcd w0 _ sb v hs1 (2*i+2) (2*i+1) _ _ true ?e1 ?e2 h1 (by omega) (by omega) hb).mono ?_
     case e1=>omega
     case e2=>omega
     rintro e w2 ⟨rfl,hb2⟩;have h2:=h1.below hb2;have hop2:=hop.trans (Hop.below hb2);have hq2:=zmf w2 sb v h2.cell;clear h1 hop hb2 hq;have hjl:2*i+2<hs1.length:=by omega
     have hil:i<hs1.length:=by omega
     cases hl:lessS (sN hs1 (2*i+2)) (sN hs1 i) with
     | true =>
      have HUO2:Hid (dnOk (swapS hs1 i (2*i+2)) (2*i+2) n):=zlZ (by omega) (by omega) (by omega) HUO.out HC.out hl;have HPM2:Hid ((swapS hs1 i (2*i+2)).Perm hs):=(zbw hil hjl).trans HPM.out;have HTL2:Hid (∀ k,n≤k→sN (swapS hs1 i (2*i+2)) k=sN hs k):=fun k hk=>by rw[zeu hil hjl,if_neg (by omega),if_neg (by omega)];exact HTL.out k hk
      go_wp2_with fail
      refine(zcd w0 _ sb v hs1 (2*i+2) i _ _ true ?e1 ?e2 h2 hjl hil hl).mono ?_
      case e1=>omega
      case e2=>omega
      rintro e w5 ⟨rfl,hb5⟩;have h5:=h2.below hb5;have hop5:=hop2.trans (Hop.below hb5);have hq5:=zkA w5 sb v h5.cell;clear hb5 h2 hop2 hq2;go_wp2_with fail
      refine(zeH w0 _ sb v hs1 i (2*i+2) _ _ ?e3 ?e4 h5 hil hjl).mono ?_
      case e3=>omega
      case e4=>omega
      rintro e w6 ⟨rfl,h6,hop6⟩;have hop7:=hop5.trans hop6;clear h5 hop5 hop6 hq5;go_wp2;go_roundw
      case rel=>exact⟨2*i+2,_,by first | rfl | go_num | (congr 1;omega),by omega,by omega,by rw[zbO];exact hn1,h6,HPM2,HTL2,HUO2,hop7⟩
      case measure=>simp[intOf];omega
     | false =>
      go_wp2_with fail
      refine(zcd w0 _ sb v hs1 (2*i+2) i _ _ false ?e1 ?e2 h2 hjl hil hl).mono ?_
      case e1=>omega
      case e2=>omega
      rintro e w5 ⟨rfl,hb5⟩;have HE:Hid (∀ b,zkg w0 w sb v hs n (.returned (.bool b)) w5):=fun b=>⟨hs1,b,rfl,h2.below hb5,HPM.out,HTL.out,zld HUO.out HC.out hl,hop2.trans (Hop.below hb5)⟩
      clear hb5 h2 hop2 hq2;go_wp2;go_ret;exact HE.out _
    | false =>
     have HC:Hid (∀ k,k<n→k=2*i+1∨k=2*i+2→lessS (sN hs1 k) (sN hs1 (2*i+1))=false):=fun k _ hk=>by
      rcases hk with rfl | rfl
      ·exact zcp _ _
      ·exact hb
     go_wp2_with fail
     refine(zcd w0 _ sb v hs1 (2*i+2) (2*i+1) _ _ false ?e1 ?e2 h1 (by omega) (by omega) hb).mono ?_
     case e1=>omega
     case e2=>omega
     rintro e w2 ⟨rfl,hb2⟩;have h2:=h1.below hb2;have hop2:=hop.trans (Hop.below hb2);have hq2:=zmf w2 sb v h2.cell;clear h1 hop hb2 hq;have hjl:2*i+1<hs1.length:=by omega
     have hil:i<hs1.length:=by omega
     cases hl:lessS (sN hs1 (2*i+1)) (sN hs1 i) with
     | true =>
      have HUO2:Hid (dnOk (swapS hs1 i (2*i+1)) (2*i+1) n):=zlZ (by omega) (by omega) (by omega) HUO.out HC.out hl;have HPM2:Hid ((swapS hs1 i (2*i+1)).Perm hs):=(zbw hil hjl).trans HPM.out;have HTL2:Hid (∀ k,n≤k→sN (swapS hs1 i (2*i+1)) k=sN hs k):=fun k hk=>by rw[zeu hil hjl,if_neg (by omega),if_neg (by omega)];exact HTL.out k hk
      go_wp2_with fail
      refine(zcd w0 _ sb v hs1 (2*i+1) i _ _ true ?e1 ?e2 h2 hjl hil hl).mono ?_
      case e1=>omega
      case e2=>omega
      rintro e w5 ⟨rfl,hb5⟩;have h5:=h2.below hb5;have hop5:=hop2.trans (Hop.below hb5);have hq5:=zkA w5 sb v h5.cell;clear hb5 h2 hop2 hq2;go_wp2_with fail
      refine(zeH w0 _ sb v hs1 i (2*i+1) _ _ ?e3 ?e4 h5 hil hjl).mono ?_
      case e3=>omega
      case e4=>omega
      rintro e w6 ⟨rfl,h6,hop6⟩;have hop7:=hop5.trans hop6;clear h5 hop5 hop6 hq5;go_wp2;go_roundw
      case rel=>exact⟨2*i+1,_,by first | rfl | go_num | (congr 1;omega),by omega,by omega,by rw[zbO];exact hn1,h6,HPM2,HTL2,HUO2,hop7⟩
      case measure=>simp[intOf];omega
     | false =>
      go_wp2_with fail
      refine(zcd w0 _ sb v hs1 (2*i+1) i _ _ false ?e1 ?e2 h2 hjl hil hl).mono ?_
      case e1=>omega
      case e2=>omega
      rintro e w5 ⟨rfl,hb5⟩;have HE:Hid (∀ b,zkg w0 w sb v hs n (.returned (.bool b)) w5):=fun b=>⟨hs1,b,rfl,h2.below hb5,HPM.out,HTL.out,zld HUO.out HC.out hl,hop2.trans (Hop.below hb5)⟩
      clear hb5 h2 hop2 hq2;go_wp2;go_ret;exact HE.out _
   ·have hr2:¬ 2*(i:Int)+1+1<(n:Int):=by omega
    have HC:Hid (∀ k,k<n→k=2*i+1∨k=2*i+2→lessS (sN hs1 k) (sN hs1 (2*i+1))=false):=fun k hk0 hk=>by
     rcases hk with rfl | rfl
     ·exact zcp _ _
     ·omega
    have hjl:2*i+1<hs1.length:=by omega
    have hil:i<hs1.length:=by omega
    cases hl:lessS (sN hs1 (2*i+1)) (sN hs1 i) with
    | true =>
     have HUO2:Hid (dnOk (swapS hs1 i (2*i+1)) (2*i+1) n):=zlZ (by omega) (by omega) (by omega) HUO.out HC.out hl;have HPM2:Hid ((swapS hs1 i (2*i+1)).Perm hs):=(zbw hil hjl).trans HPM.out;have HTL2:Hid (∀ k,n≤k→sN (swapS hs1 i (2*i+1)) k=sN hs k):=fun k hk=>by rw[zeu hil hjl,if_neg (by omega),if_neg (by omega)];exact HTL.out k hk
     go_wp2_with fail
     refine(zcd w0 _ sb v hs1 (2*i+1) i _ _ true ?e1 ?e2 h1 hjl hil hl).mono ?_
     case e1=>omega
     case e2=>omega
     rintro e w5 ⟨rfl,hb5⟩;have h5:=h1.below hb5;have hop5:=hop.trans (Hop.below hb5);have hq5:=zkA w5 sb v h5.cell;clear hb5 h1 hop hq;go_wp2_with fail
     refine(zeH w0 _ sb v hs1 i (2*i+1) _ _ ?e3 ?e4 h5 hil hjl).mono ?_
     case e3=>omega
     case e4=>omega
     rintro e w6 ⟨rfl,h6,hop6⟩;have hop7:=hop5.trans hop6;clear h5 hop5 hop6 hq5;go_wp2;go_roundw
     case rel=>exact⟨2*i+1,_,by first | rfl | go_num | (congr 1;omega),by omega,by omega,by rw[zbO];exact hn1,h6,HPM2,HTL2,HUO2,hop7⟩
     case measure=>simp[intOf];omega
    | false =>
     go_wp2_with fail
     refine(zcd w0 _ sb v hs1 (2*i+1) i _ _ false ?e1 ?e2 h1 hjl hil hl).mono ?_
     case e1=>omega
     case e2=>omega
     rintro e w5 ⟨rfl,hb5⟩;have HE:Hid (∀ b,zkg w0 w sb v hs n (.returned (.bool b)) w5):=fun b=>⟨hs1,b,rfl,h1.below hb5,HPM.out,HTL.out,zld HUO.out HC.out hl,hop.trans (Hop.below hb5)⟩
     clear hb5 h1 hop hq;go_wp2;go_ret;exact HE.out _
end Go.Proofs.YtannfbpohhnnkaaGreatDoor
