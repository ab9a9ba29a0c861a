import Derived.Test.YtjlnchhgkfnldaaGreatG40
import Derived.Maps.AppendAt
namespace Go.Proofs.YtjlnchhgkfnldaaGreat
set_option maxHeartbeats 16000000
set_option maxRecDepth 100000
open Go.RowKit
theorem zkl{T:Tre}:∀ l∈unpL T,okL l=true:=fun l hl=>by
 cases ht:zI T with
 | false=>rw[zh0 ht] at hl;cases hl
 | true =>
  rw[zd1 ht] at hl;have h:=(zQ T).1 ht;rcases List.mem_cons.1 hl with rfl | hl
  ·exact h.mem
  ·obtain⟨t,ht,rfl⟩:=List.mem_map.1 hl;exact(zac (h.full t ht)).1
theorem zlu{l:List Ent}(h:okL l=true):∀ e∈l,Fits e:=fun e he=>by
 have:=((zaD _).1 h).2.1 e he;simp only[okE,Bool.and_eq_true,decide_eq_true_eq] at this;exact⟨by omega,by omega,by omega,by omega⟩
def BoxE(w:World)(b:Nat)(x:Ent):Prop:=w.heap[b]? = some (.cells #[.string x.key,.string x.val,.int .i64 x.seq,.bool x.gone] 40 (0,0))
theorem BoxE.lt{w:World}{b:Nat}{x:Ent}(h:BoxE w b x):b<w.heap.size:=(Array.getElem?_eq_some_iff.1 h).1
theorem BoxE.below{w w':World}{b:Nat}{x:Ent}(h:BoxE w b x)(hb:Below w.heap.size w w'):BoxE w' b x:=(hb.block b h.lt).trans h
theorem zig(w:World)(x:Ent):BoxE (w.alloc (.cells #[.string x.key,.string x.val,.int .i64 x.seq,.bool x.gone] 40)) w.heap.size x:=heap_alloc_new w _
theorem BoxE.facts{w:World}{b:Nat}{x:Ent}(h:BoxE w b x):w.cell? ⟨b,0,none⟩=some (.string x.key)∧w.cell? ⟨b,1,none⟩=some (.string x.val)∧w.cell? ⟨b,2,none⟩=some (.int .i64 x.seq)∧w.cell? ⟨b,3,none⟩=some (.bool x.gone) ∧
 w.frozen? ⟨b,0,none⟩=false∧w.frozen? ⟨b,1,none⟩=false∧w.frozen? ⟨b,2,none⟩=false∧w.frozen? ⟨b,3,none⟩=false:=by
 unfold BoxE at h;refine⟨?_,?_,?_,?_,?_,?_,?_,?_⟩<;>simp[World.cell?,World.frozen?,h]
theorem zoK{w:World}{b:Nat}{x:Ent}(h:BoxE w b x)(y:Ent):BoxE ((((w.setCell ⟨b,0,none⟩ (.string y.key)).setCell ⟨b,1,none⟩ (.string y.val)).setCell ⟨b,2,none⟩ (.int .i64 y.seq)).setCell ⟨b,3,none⟩ (.bool y.gone)) b y:=by
 unfold BoxE at h ⊢;have h0:=heap_setCell_same w b 0 _ _ (.string y.key) h;have h1:=heap_setCell_same _ b 1 _ _ (.string y.val) h0;have h2:=heap_setCell_same _ b 2 _ _ (.int .i64 y.seq) h1;exact heap_setCell_same _ b 3 _ _ (.bool y.gone) h2
theorem zmp{k:ByteArray}{q:Int}{ls:List (List Ent)}{i:Nat}{l:List Ent}(h:ls[i]? = some l):foldB k q noE (ls.take (i+1))=stepB (foldB k q noE (ls.take i)) (seenL l k q):=by
 have hi:i<ls.length:=(List.getElem?_eq_some_iff.1 h).1;have hl:ls[i]=l:=(List.getElem?_eq_some_iff.1 h).2;unfold foldB;rw[List.take_succ_eq_append_getElem hi,List.foldl_append,hl];rfl
theorem zdE(X:TrX)(key:ByteArray)(q:Int)(w:World)(hx:RdTr w X)(hf:FitTr X) :
 Calls Tryz.prog 16 #[.agg #[X.vm,X.vy,X.vo,.int .i64 X.seq,X.vs],.string key,.int .i64 q] w fun e w'=>ze5 w (readT X.tre key q) e w':=by
 have ht0:=zam w X 28;have b0:=ze w (.cells #[X.vm,X.vy,X.vo,.int .i64 X.seq,X.vs] 28);have HU:Hid (Calls _ _ _ _ _):=zbf X _ (hx.below b0) hf;have HR:Hid (∀ b:Ent,b=foldB key q noE (unpL X.tre)→∀ W,Below w.heap.size w W→ze5 w (readT X.tre key q) (.returned (.tuple #[.string b.val,.bool (!b.gone)])) W):=fun b hb W hW=>by
  have:=zo5 X.tre key q;rw[← hb] at this;have e1:=congrArg Prod.fst this;have e2:=congrArg Prod.snd this;simp only at e1 e2;unfold ze5;rw[← e1,← e2];exact⟨rfl,hW⟩
 have HOK:Hid (∀ l∈unpL X.tre,okL l=true):=zkl;generalize ze5 w (readT X.tre key q)=GOAL at HR ⊢;unfold zbN at HU;generalize zI X.tre=ok at HU;generalize unpL X.tre=ls at HU HR HOK;obtain⟨q0,q1,q2,q3,q4⟩:=id ht0;go_enter Tryz.func16,Tryz.ntmps16
 go_wp2_with fail
 refine HU.out.mono ?_;rintro e w1 ⟨u,ps,rfl,hp,hpm,hb1⟩;have b1:=b0.trans (hb1.mono b0.size);obtain⟨a,cap,hv,hla,hma,hat⟩:=hp.at;have hln:ls.length=ps.length:=by rw[← hpm,List.length_map]
 rw[hpm] at hat;obtain⟨nn,hnn⟩:∃ nn,nn=ps.length:=⟨_,rfl⟩;rw[← hnn] at hv hla hat hln;have AT:Hid (∀ k,k<nn→_):=hat;have HLN:Hid (ls.length=nn):=hln;unfold maxLen at hma;subst hv;have hbN:=zig w1 noE;have bN:=ze w1 (.cells #[.string noE.key,.string noE.val,.int .i64 noE.seq,.bool noE.gone] 40);simp only[noE] at hbN bN;clear HU ht0 q0 q1 q2 q3 q4 hb1 hat hln hnn hp hpm b0;go_wp2;go_loopw [23] (fun i wr=>∃ (k:Nat) (b:Ent),k≤nn∧i=.int .i64 k∧BoxE wr w1.heap.size b∧Hid (b=foldB key q noE (ls.take k))∧Below w1.heap.size w1 wr) (fun i _=>nn-(intOf i).toNat)
 case atStart=>exact⟨0,noE,Nat.zero_le _,rfl,hbN,rfl,bN⟩
 case round =>
  clear hbN bN;obtain⟨k,b,hk,rfl,hbx,HB,hb⟩:=hrel;by_cases hlt:k<nn
  ·obtain⟨bb,off,aa,zn,cc,zs,rfl,hc,hrz,hlz⟩:=AT.out k hlt wr hb;have HST:Hid (foldB key q noE (ls.take (k+1))=stepB b (seenL zs key q)):=(by unfold Hid;rw[HB.out];exact zmp hlz);have hkc:k<cap:=(by omega);have HC:Hid (Calls _ _ _ _ _):=zht (.slice aa zn cc) zs key q wr hrz (HOK.out zs (List.mem_of_getElem? hlz));generalize seenL zs key q=o at HC HST;clear hlz hrz;cases o with
   | none =>
    have HB2:Hid (b=foldB key q noE (ls.take (k+1))):=HST.out.symm;go_wp2_with fail
    refine HC.out.mono ?_;rintro e w2 ⟨he,hb2⟩;obtain rfl:e=.returned (.tuple #[.agg #[.string ⟨#[]⟩,.string ⟨#[]⟩,.int .i64 0,.bool false],.bool false]):=he;have bx2:=(hbx.below hb2).below (ze w2 (.cells #[.string ⟨#[]⟩,.string ⟨#[]⟩,.int .i64 0,.bool false] 40));have b2:=(hb.trans (hb2.mono hb.size)).alloc (hb.trans (hb2.mono hb.size)).size (.cells #[.string ⟨#[]⟩,.string ⟨#[]⟩,.int .i64 0,.bool false] 40);clear HC HST HB hbx hb hb2 hc;go_wp2;go_roundw
    case rel=>exact⟨k+1,b,by omega,by go_num,bx2,HB2,b2⟩
    case measure=>simp[intOf];omega
   | some y =>
    by_cases hlt2:b.seq<y.seq
    ·skip
     have HB2:Hid (y=foldB key q noE (ls.take (k+1))):=(by unfold Hid;rw[HST.out];exact(if_pos hlt2).symm);go_wp2_with fail
     refine HC.out.mono ?_;rintro e w2 ⟨he,hb2⟩;obtain rfl:e=.returned (.tuple #[.agg #[.string y.key,.string y.val,.int .i64 y.seq,.bool y.gone],.bool true]):=he;have ba:=ze w2 (.cells #[.string y.key,.string y.val,.int .i64 y.seq,.bool y.gone] 40);have bx2:=(hbx.below hb2).below ba;have b2:=(hb.trans (hb2.mono hb.size)).trans (ba.mono (hb.trans (hb2.mono hb.size)).size);obtain⟨d0,d1,d2,d3,f0,f1,f2,f3⟩:=bx2.facts;obtain⟨e0,e1,e2,e3,-⟩:=(zig w2 y).facts;have bx3:=zoK bx2 y;have hne:w1.heap.size≠w2.heap.size:=(by have:=hbx.lt;have:=hb2.size;omega);have b3:=zbv b2 (nR _) (.string y.key) (.string y.val) (.int .i64 y.seq) (.bool y.gone) 0 1 2 3;clear HC HST HB hbx hb hb2 hc ba bx2 b2;go_wp2;go_roundw
     case rel=>exact⟨k+1,y,by omega,by go_num,bx3,HB2,b3⟩
     case measure=>simp[intOf];omega
    ·skip
     have HB2:Hid (b=foldB key q noE (ls.take (k+1))):=(by unfold Hid;rw[HST.out];exact(if_neg hlt2).symm);go_wp2_with fail
     refine HC.out.mono ?_;rintro e w2 ⟨he,hb2⟩;obtain rfl:e=.returned (.tuple #[.agg #[.string y.key,.string y.val,.int .i64 y.seq,.bool y.gone],.bool true]):=he;have ba:=ze w2 (.cells #[.string y.key,.string y.val,.int .i64 y.seq,.bool y.gone] 40);have bx2:=(hbx.below hb2).below ba;have b2:=(hb.trans (hb2.mono hb.size)).trans (ba.mono (hb.trans (hb2.mono hb.size)).size);obtain⟨d0,d1,d2,d3,f0,f1,f2,f3⟩:=bx2.facts;obtain⟨e0,e1,e2,e3,-⟩:=(zig w2 y).facts;clear HC HST HB hbx hb hb2 hc ba;go_wp2;go_roundw
     case rel=>exact⟨k+1,b,by omega,by go_num,bx2,HB2,b2⟩
     case measure=>simp[intOf];omega
  ·skip
   have hke:k=nn:=(by omega);have hbe:b=foldB key q noE ls:=(by have:=HB.out;rw[hke,← HLN.out,List.take_length] at this;exact this);have RES:Hid (GOAL (.returned (.tuple #[.string b.val,.bool (!b.gone)])) wr.drew):=HR.out b hbe _ ((b1.trans (hb.mono b1.size)).drew);obtain⟨d0,d1,d2,d3,-⟩:=hbx.facts;clear hke hbe HB HR AT;go_wp2;go_region
   go_wp2;exact RES.out
theorem scan_eq(T:Tre)(a b:ByteArray)(q:Int):(zaJ (zat (unpL T)).1 q).filter (inR a b)=scanT T a b q:=by
 cases ht:zI T with
 | false =>
  rw[zh0 ht,ziI (.inl ht)];rfl
 | true =>
  have hp:=(zQ T).1 ht;have ha:=zfV hp;rw[zd1 ht];have hk:zbd (lsT T)=decide ((zj (lsT T)).length≤300):=by
   unfold zbd;have h1:(lsT T).length≤20:=by
    show (T.mem::(T.young++T.old).map zu).length≤20;have:=hp.young;have:=hp.old;simp;omega
   have h2:(lsT T).all okL=true:=by
    rw[List.all_eq_true];intro l hl;rw[← zd1 ht] at hl;exact zkl l hl
   rw[decide_eq_true h1,h2];rfl
  by_cases hn:(zj (lsT T)).length≤300
  ·have h3:=zjb (a:=a) (b:=b) (q:=q) ht (by rw[ha];exact hn);rw[ha] at h3;rw[h3.1];unfold zat scanL zaJ;rw[hk,decide_eq_true hn];simp only[if_true];rw[if_pos h3.2]
  ·rw[ziI (.inr (by rw[ha];show 300<(zj (lsT T)).length;omega))];unfold zat;rw[hk,decide_eq_false hn];rfl
theorem zm7(w:World)(y:Ent)(t:TypeId)(n:Nat)(hn:n=w.heap.size):∀ j u,(EC y)[j]? = some u→(w.alloc (.cells #[.string y.key,.string y.val,.int .i64 y.seq,.bool y.gone] t)).cell? ((⟨n,0,none⟩:Addr).add j)=some u:=by rw[hn];exact znA w y t
theorem zmL(es:List Ent)(q:Int):(zaJ es q).length≤es.length:=by
 unfold zaJ;split
 ·exact ze6 es q es.length
 ·simp
theorem ziH(ls:List (List Ent)):(zat ls).1.length≤300:=by
 unfold zat;split
 ·rename_i h;simp only[zbd,Bool.and_eq_true,decide_eq_true_eq] at h;exact h.2
 ·simp
theorem zj2(ls:List (List Ent)):∀ e∈(zat ls).1,Fits e:=by
 unfold zat;split
 ·rename_i h;exact zlu (zi3 h)
 ·intro e he;cases he
theorem zjM(X:TrX)(fr up:ByteArray)(q:Int)(w:World)(hx:RdTr w X)(hf:FitTr X) :
 Calls Tryz.prog 13 #[.agg #[X.vm,X.vy,X.vo,.int .i64 X.seq,X.vs],.string fr,.string up,.int .i64 q] w fun e w'=>zbq w (scanT X.tre fr up q) e w':=by
 have ht0:=zam w X 28;have b0:=ze w (.cells #[X.vm,X.vy,X.vo,.int .i64 X.seq,X.vs] 28);have HU:Hid (Calls _ _ _ _ _):=zbf X _ (hx.below b0) hf;have HOK:Hid (∀ l∈unpL X.tre,okL l=true):=zkl;rw[← scan_eq];unfold zbN at HU;generalize zI X.tre=ok at HU;generalize unpL X.tre=ls at HU HOK ⊢;have HMG:Hid (∀ u ps W,Pieces W u ps→ps.map (·.2)=ls→Calls Tryz.prog 34 #[u] W fun e w'=>zcg W ls e w'):=fun u ps W h he=>by
  have:=zeg u ps W h (fun p hp=>zlu (HOK.out p.2 (by rw[← he];exact List.mem_map_of_mem hp)));rw[he] at this;exact this
 have HFT:Hid (∀ e∈(zat ls).1,Fits e):=zj2 ls;have hm3:=ziH ls;unfold zcg at HMG;generalize (zat ls).2=mk at HMG;generalize (zat ls).1=all at HMG HFT hm3 ⊢;have HSH:Hid (∀ u W,RdE W u all→Calls Tryz.prog 46 #[u,.int .i64 q] W fun e w'=>zbq W (zaJ all q) e w'):=fun u W h=>zit u all q W h HFT.out
 have hle:(zaJ all q).length≤300:=nT (zmL all q) hm3;unfold zbq at HSH;generalize zaJ all q=L at HSH hle ⊢;obtain⟨q0,q1,q2,q3,q4⟩:=id ht0;clear HFT hm3 HOK;go_enter Tryz.func13,Tryz.ntmps13
 go_wp2_with fail
 refine HU.out.mono ?_;rintro e w1 ⟨u,ps,rfl,hp,hpm,hb1⟩;have b1:=b0.trans (hb1.mono b0.size);clear HU ht0 q0 q1 q2 q3 q4 hb1 b0;go_wp2_with fail
 refine(HMG.out u ps _ hp hpm).mono ?_;rintro e w2 ⟨u2,rfl,ho2,hb2⟩;have b2:=b1.trans (hb2.mono b1.size);have ba:=ze w2 (.cells #[] 40);have oe:=zX w2;have b3:=b2.trans (ba.mono b2.size);have rd2:=ho2.rd.below ba;have s3:(w2.alloc (.cells #[] 40)).heap.size=w2.heap.size+1:=by simp
 clear HMG hp hpm hb2 b1 ba ho2;go_wp2_with fail
 refine(HSH.out u2 _ rd2).mono ?_;rintro e w4 ⟨u4,rfl,ho4,hb4⟩;have b4:=b3.trans (hb4.mono b3.size);have oe4:=oe.below hb4;have s4:=hb4.size;rw[s3] at ho4 s4;obtain⟨aL,cL,hvL,hlL,hmL,-⟩:=id ho4.rd;obtain⟨nn,hnn⟩:∃ nn,nn=L.length:=⟨_,rfl⟩;rw[← hnn] at hvL hlL hle;have HNN:Hid (nn=L.length):=hnn;subst hvL;unfold maxLen at hmL;have s2:=b2.size;have HAP:Hid (∀ k,(Value.slice aL nn cL).ownBlock=some k→(Value.slice (some ⟨w2.heap.size,0,none⟩) 0 0).ownBlock≠some k):=fun k hk e=>by
  have h1:=(oL ho4 k hk).1;have h2:w2.heap.size=k:=Option.some.inj e;omega
 have hoL:=ho4.mono (show w.heap.size≤w2.heap.size+1 by omega);have hoo:=oe4.mono s2;obtain⟨i0,hi,hz0,hz1,hz2⟩:=info_parts Tryz.info40;clear HSH rd2 b3 hb4 oe s3 oe4 ho4 hnn b2;go_wp2;go_loopw [13,31] (fun o i wr=>∃ k:Nat,k≤nn∧i=.int .i64 k∧OwnE wr w.heap.size o ((L.take k).filter (inR fr up))∧OwnE wr w.heap.size (.slice aL nn cL) L∧Hid (∀ k,(Value.slice aL nn cL).ownBlock=some k→o.ownBlock≠some k)∧Below w.heap.size w wr) (fun _ i _=>nn-(intOf i).toNat)
 case atStart=>exact⟨0,Nat.zero_le _,rfl,hoo,hoL,HAP,b4⟩
 case round =>
  clear hoo hoL HAP b4;obtain⟨k,hk,rfl,ho,hoL,HAP,hb⟩:=hrel;by_cases hlt:k<nn
  ·have hkl:k<L.length:=(by rw[← HNN.out];exact hlt);obtain⟨b,off,rfl,hc⟩:=hoL.rd.at HNN.out k hkl;have hkc:k<cL:=(by omega);have HST:=zke (a:=fr) (b:=up) hkl;obtain⟨y,hy⟩:∃ y,y=nth L k:=⟨_,rfl⟩;rw[← hy] at hc HST;have HS:Hid ((L.take (k+1)).filter (inR fr up)=(L.take k).filter (inR fr up)++(if inR fr up y=true then [y] else [])):=HST;have hfl:((L.take k).filter (inR fr up)).length≤k:=nT (List.length_filter_le _ _) (by rw[List.length_take];omega);clear HST hy;obtain⟨c0,c1,c2,c3⟩:=id hc;obtain⟨g1,hg1⟩:∃ g1,g1=kLt y.key fr:=⟨_,rfl⟩;obtain⟨g2,hg2⟩:∃ g2,g2=kLt y.key up:=⟨_,rfl⟩;have hB1:Op.bytesLess y.key.toList fr.toList=g1:=hg1.symm;have hB2:Op.bytesLess y.key.toList up.toList=g2:=hg2.symm;have hin:inR fr up y=(!g1&&g2):=(by unfold inR;rw[hg1,hg2]);rw[hin] at HS;clear hg1 hg2 hin;have bb1:=ze wr (.cells #[.string y.key,.string y.val,.int .i64 y.seq,.bool y.gone] 40);have hbw:=hb.trans (bb1.mono hb.size);by_cases hgg:g1=false∧g2=true
   ·obtain⟨rfl,rfl⟩:=hgg;have HS2:Hid ((L.take (k+1)).filter (inR fr up)=(L.take k).filter (inR fr up)++[y]):=HS.out;have hs:=hb.size;clear HS;go_wp2_with (at_builtin;(refine wpList_append_own_at _ rfl _ _ 24 rfl w.heap.size 40 i0 _ 4 48 Tryz.underlying24 hi hz0 hz1 hz2 rfl (by decide) _ _ _ rfl (World.ownsRow.alloc (World.ownsRow.alloc ho _) _) ⟨wr.heap.size+1,0,none⟩ 1 1 (EC y) rfl rfl ?c1 ?c2 ?c3 ?c4 ?c5 ?_))
    case c1=>exact zm7 _ y _ _ (by simp)
    case c2=>exact EC_one y
    case c3=>unfold maxLen;omega
    case c4=>omega
    case c5=>simp;omega
    intro v5 w5 ho5 hg5 _ hat;have bb2:=ze (wr.alloc (.cells #[.string y.key,.string y.val,.int .i64 y.seq,.bool y.gone] 40)) (.cells #[.string y.key,.string y.val,.int .i64 y.seq,.bool y.gone] 40);have hoL5:=zl ((hoL.below bb1).below bb2) hg5 (fun k hk=>HAP.out k hk);have HAP5:Hid (∀ k,(Value.slice (some ⟨b,off,none⟩) nn cL).ownBlock=some k→v5.ownBlock≠some k):=fun k hk e=>by
     have h1:=(oL hoL k hk).2;rcases hat with hat | hat
     ·rw[hat] at e;exact HAP.out k hk e
     ·rw[hat] at e;have h2:wr.heap.size+1+1=k:=(by simpa using Option.some.inj e);omega
    have b5:Below w.heap.size w w5:=(hbw.trans (bb2.mono hbw.size)).grown hg5 (by simp;omega) (fun k hk=>(oL ho k hk).1);have r5:OwnE w5 w.heap.size v5 ((L.take (k+1)).filter (inR fr up)):=(by rw[HS2.out];exact zhD ho5);clear ho hoL HAP hb ho5 hg5 hat bb1 bb2 hbw hc c0 c1 c2 c3;go_wp2;go_roundw
    case rel=>exact⟨k+1,by omega,by go_num,r5,hoL5,HAP5,b5⟩
    case measure=>simp[intOf];omega
   ·skip
    have HS2:Hid ((L.take (k+1)).filter (inR fr up)=(L.take k).filter (inR fr up)):=by
     unfold Hid;rw[HS.out];cases g1<;>cases g2<;>simp at hgg ⊢
    have r5:OwnE (wr.alloc (.cells #[.string y.key,.string y.val,.int .i64 y.seq,.bool y.gone] 40)) w.heap.size u13 ((L.take (k+1)).filter (inR fr up)):=(by rw[HS2.out];exact ho.below bb1);have hoL5:=hoL.below bb1;have hcase:(g1=true)∨(g1=false∧g2=false):=(by cases g1<;>cases g2<;>simp at hgg ⊢);clear ho HS HS2 hgg hfl;rcases hcase with rfl | ⟨rfl,rfl⟩
    all_goals
     go_wp2;go_roundw
     case rel=>exact⟨k+1,by omega,by go_num,r5,hoL5,HAP,hbw⟩
     case measure=>simp[intOf];omega
  ·skip
   have hke:k=nn:=(by omega);subst hke;have r5:OwnE wr w.heap.size u13 (L.filter (inR fr up)):=(by have:=ho;rw[HNN.out,List.take_length] at this;exact this);clear ho;go_wp2;go_ret;exact⟨_,rfl,r5,hb⟩
end Go.Proofs.YtjlnchhgkfnldaaGreat
