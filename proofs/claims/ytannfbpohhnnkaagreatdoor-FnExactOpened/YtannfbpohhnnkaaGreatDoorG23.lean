import Derived.Test.YtannfbpohhnnkaaGreatDoorG22
import Derived.OpenShut
import Derived.Deep.Slices
import Derived.ChangeArms
import Derived.Test.YtannfbpohhnnkaaGreatDoorG17
import Derived.Test.YtannfbpohhnnkaaGreatDoorTreSpec6
namespace Go.Proofs.YtannfbpohhnnkaaGreatDoor
set_option maxHeartbeats 16000000
set_option maxRecDepth 100000
open Go.RowKit
def tot(hs:List Src):Nat:=(hs.map (fun s=>s.es.length)).sum
theorem zmg{a b:List Src}(h:a.Perm b):tot a=tot b:=by
 unfold tot;exact(h.map (fun s:Src=>s.es.length)).sum_nat
theorem tot_rest(hs:List Src)(v:Value)(r:List Ent)(no:Nat):tot (rest hs v r no)=tot hs+r.length:=by
 unfold rest;split
 ·omega
 ·simp[tot]
theorem tot_le{hs:List Src}(h:∀ s∈hs,s.es.length≤300):tot hs≤300*hs.length:=by
 induction hs with
 | nil=>simp[tot]
 | cons a r ih =>
  have h1:=ih (fun s hs=>h s (List.mem_cons_of_mem _ hs));have h2:=h a List.mem_cons_self;simp only[tot,List.map_cons,List.sum_cons,List.length_cons] at h1 ⊢;omega
theorem rest_len(hs:List Src)(v:Value)(r:List Ent)(no:Nat):(rest hs v r no).length≤hs.length+1:=by
 unfold rest;split
 ·omega
 ·simp
theorem zjE{w0 w:World}{sb B:Nat}{v o:Value}{hs:List Src}{es:List Ent}(h:Hp w0 w sb v hs)(ho:OwnE w B o es):∀ k,o.ownBlock=some k→k≠sb∧v.ownBlock≠some k:=by
 intro k hk;rcases ho.2 with ⟨h1,_⟩ | ⟨g,cap,cur,hv,_,hg,_⟩
 ·rw[h1] at hk;cases hk
 ·rw[hv] at hk;have hgk:g=k:=Option.some.inj hk;subst hgk;refine⟨fun e=>?_,fun e=>?_⟩
  ·have:=h.box;rw[← e,hg] at this;simp at this
  ·rcases h.own.2 with ⟨h1,_⟩ | ⟨g',cap',cur',hv',_,hg',_⟩
   ·rw[h1] at e;cases e
   ·rw[hv'] at e;have hgg:g'=g:=Option.some.inj e;rw[hgg,hg] at hg';simp at hg'
theorem ownE_hop{w0 w w':World}{sb B:Nat}{v v' o:Value}{hs:List Src}{es:List Ent}(h:Hp w0 w sb v hs)(ho:OwnE w B o es)(hop:Hop w v sb w' v'):OwnE w' B o es:=by
 refine⟨ho.1,?_⟩;rcases ho.2 with h2 | ⟨g,cap,cur,hv,hg,hh,r⟩
 ·exact .inl h2
 ·have hgo:o.ownBlock=some g:=by rw[hv];rfl
  obtain⟨h1,h3⟩:=zjE h ho g hgo;exact .inr ⟨g,cap,cur,hv,hg,by rw[hop.block g (World.ownsRow.lt ho g hgo).2 h1 h3];exact hh,r⟩
theorem Hp.grown{w0 w w':World}{sb B:Nat}{v o:Value}{hs:List Src}{es:List Ent}(h:Hp w0 w sb v hs)(ho:OwnE w B o es)(hB:w0.heap.size≤B)(hg:w.grownBy w' o.ownBlock):Hp w0 w' sb v hs:=by
 have ap:=zjE h ho;refine⟨h.bel.grown hg h.bel.size (fun k hk=>Nat.le_trans hB (World.ownsRow.lt ho k hk).1),h.ge,(hg.block sb h.lt (fun e=>(ap sb e.symm).1 rfl)).trans h.box,ze1 h.own (fun k hk=>hg.block k (h.row_lt k hk) (fun e=>(ap k e.symm).2 hk)),h.ne,h.rd,h.few⟩
theorem hp_start(w:World):Hp w ((w.alloc (.cells #[] 263)).alloc (.cells #[.slice (some ⟨w.heap.size,0,none⟩) 0 0] 239)) (w.heap.size+1) (.slice (some ⟨w.heap.size,0,none⟩) 0 0) []:=by
 have b1:=za w (.cells #[] 263);have b2:=b1.alloc b1.size (.cells #[.slice (some ⟨w.heap.size,0,none⟩) 0 0] 239);have ho:OwnH (w.alloc (.cells #[] 263)) w.heap.size (.slice (some ⟨w.heap.size,0,none⟩) 0 0) []:=World.ownsRow_lit w #[] 0 (Nat.le_refl _) (Nat.zero_le _) rfl;refine⟨b2,by omega,?_,ho.below (za _ _),fun k hk=>?_,(fun s hs=>by cases hs),by simp⟩
 ·have:=heap_alloc_new (w.alloc (.cells #[] 263)) (.cells #[.slice (some ⟨w.heap.size,0,none⟩) 0 0] 239);simpa using this
 ·have:w.heap.size=k:=Option.some.inj hk;omega
theorem zpb{out:List Ent}{x:Ent}(h:out.length=0∨zz (nth out (out.length-1)) x=false):nxt out x=out++[x]:=if_pos h
theorem nxt_old{out:List Ent}{x:Ent}(h0:0<out.length)(h:zz (nth out (out.length-1)) x=true):nxt out x=out:=if_neg (fun e=>by
 rcases e with e | e
 ·omega
 ·rw[h] at e;cases e)
theorem zc3(v:Value)(ps:List (Value×List Ent))(w:World)(hp:Pieces w v ps)(hn:ps.length≤20)(hok:∀ p∈ps,okL p.2=true) :
 Calls Tryz.prog 193 #[v] w fun e w'=>zdI w (zk (ps.map (·.2))) e w':=by
 obtain⟨ls,hls⟩:∃ ls,ls=ps.map (·.2):=⟨_,rfl⟩;have HSR:Hid (∀ l∈ls,Sr l∧l.length≤300):=fun l hl=>by
  rw[hls] at hl;obtain⟨p,hp',rfl⟩:=List.mem_map.1 hl;exact⟨ziu (hok p hp'),zZ (hok p hp')⟩
 rw[← hls];obtain⟨a,cap,hv,hla,hma⟩:∃ a cap,v=.slice a ps.length cap∧ps.length≤cap∧cap≤maxLen:=by
  rcases hp with ⟨rfl,rfl⟩ | ⟨b,off,cap,rfl,h1,h2,_⟩
  ·exact⟨none,0,rfl,Nat.le_refl _,Nat.zero_le _⟩
  ·exact⟨_,cap,rfl,h1,h2⟩
 unfold maxLen at hma;subst hv;obtain⟨nn,hnn⟩:∃ nn,nn=ps.length:=⟨_,rfl⟩;have HNN:Hid (nn=ls.length):=by unfold Hid;rw[hnn,hls,List.length_map]
 have AT:Hid (∀ k,k<nn→∀ w',Below w.heap.size w w'→∃ b off aa zn cc zs,a=some ⟨b,off,none⟩∧w'.cell? ⟨b,off+k,none⟩=some (.slice aa zn cc)∧RdE w (.slice aa zn cc) zs∧ls[k]? = some zs):=by
  intro k hk w' hb;rw[hnn] at hk;rcases hp with ⟨h,he⟩ | ⟨b,off,cap',hv,_,_,hc⟩
  ·subst he;simp at hk
  ·simp only[Value.slice.injEq] at hv;obtain⟨rfl,_,_⟩:=hv;obtain⟨aa,cc,hu,_⟩:=id (hc k hk).2;have h1:=(hc k hk).1;have h2:=(hc k hk).2;rw[hu] at h1 h2;exact⟨b,off,aa,_,cc,_,rfl,(hb.cell (World.block_lt_of_cell? w _ h1)).trans h1,h2,by rw[hls];simp[hk]⟩
 rw[← hnn] at hla hn ⊢;have hst:=hp_start w;clear hp hok hnn hls;go_enter Tryz.func193,Tryz.ntmps193
 go_wp2;obtain⟨sb,hsb⟩:∃ sb,sb=w.heap.size+1:=⟨_,rfl⟩;rw[← hsb] at hst ⊢;clear hsb;go_loopw [12] (fun i wr=>∃ (k:Nat) (vv:Value) (hs:List Src),i=.int .i64 k∧k≤nn∧hs.length≤k∧Hp w wr sb vv hs∧Hid (HP hs hs.length)∧Hid (Start ls k hs)) (fun i _=>nn-(intOf i).toNat)
 case atStart=>exact⟨0,_,[],rfl,Nat.zero_le _,Nat.le_refl _,hst,(fun k h1 h2=>by simp at h2),zoH ls⟩
 case round =>
  obtain⟨k,vv,hs,rfl,hk,hhl,h,HH,HS⟩:=hrel;clear hst;by_cases hlt:k<nn
  ·skip
   obtain⟨b,off,aa,zn,cc,zs,rfl,hc,hrz,hlz⟩:=AT.out k hlt wr h.bel;have hkc:k<cap:=by omega
   have HLZ:Hid (ls[k]? = some zs):=hlz;clear hlz;go_wp2_with fail
   refine(zk8 w _ sb vv hs _ zs k _ ?e1 h HH.out hrz (by omega)).mono ?_
   case e1=>rfl
   rintro e w2 ⟨v2,hs2,rfl,h2,hp2,hh2,hop2⟩;have HS2:Hid (Start ls (k+1) hs2):=zoa HS.out HLZ.out hp2;have HH2:Hid (HP hs2 hs2.length):=hh2;have hl2:hs2.length≤k+1:=by rw[hp2.length_eq];have:=rest_len hs (.slice aa zn cc) zs k;omega
   clear h hop2 hh2 hp2 hrz hc;go_wp2;go_roundw
   case rel=>exact⟨k+1,v2,hs2,by go_num,by omega,hl2,h2,HH2,HS2⟩
   case measure=>simp[intOf];omega
  ·skip
   have hke:k=nn:=by omega
   have HTD:Hid (Told ls hs [] []):=znU (fun l hl=>(HSR.out l hl).1) (by rw[← HNN.out,← hke];exact HS.out);have htl:tot hs≤6000:=by
    have:=tot_le (hs:=hs) (fun s hs=>by
     obtain⟨_,h1,_⟩:=HS.out.left s hs;exact(HSR.out _ (List.mem_of_getElem? h1)).2)
    omega
   have hoe:=zS wr;have hbe:=za wr (.cells #[] 94);have he:=h.below hbe;have ho0:=hoe.mono h.bel.size;clear hke HS hoe hbe h AT;go_wp2;go_loopg [6] (tot hs) (fun gg o wr=>∃ (vv:Value) (hs:List Src) (P:List (Ent×Nat)) (out:List Ent),tot hs≤gg∧Hp w wr sb vv hs∧Hid (HP hs hs.length)∧Hid (Told ls hs P out)∧OwnE wr w.heap.size o out∧out.length+tot hs≤6000)
   case atStart=>exact⟨vv,hs,[],[],Nat.le_refl _,he,HH,HTD,ho0,by simpa using htl⟩
   case round =>
    obtain⟨vv,hs,P,out,hgk,h,HH,HT,ho,hol⟩:=hrel;clear he ho0 htl HTD;have hce:=h.cell;cases hcs:hs.length with
    | zero =>
     have hs0:hs=[]:=List.eq_nil_of_length_eq_zero hcs;have HE:Hid (out=zk ls):=by subst hs0;exact told_end (fun l hl=>(HSR.out l hl).1) HT.out
     rw[HE.out] at ho;have hbel:=h.bel;have HL:Hid (Calls _ _ _ _ _):=h.len_any 0 hcs;clear h hs0 HE HH HT hol;go_wp2_with fail
     refine HL.out.mono ?_;rintro e w2 ⟨rfl,hw2⟩;obtain rfl:=hw2.symm;go_wp2;go_ret;exact⟨_,rfl,ho,hbel⟩
    | succ m =>
     obtain⟨_,_,_,_,x,r,_,hes,-⟩:=h.src (i:=0) (by omega);have HC:Hid (Calls _ _ _ _ _):=take_any w wr sb vv hs x r h HH.out (by omega) hes;have HL:Hid (Calls _ _ _ _ _):=h.len_any (m+1) hcs;have hm20:m≤20:=by have:=h.few;omega
     go_wp2_with fail
     refine HL.out.mono ?_;rintro e w2 ⟨rfl,hw2⟩;obtain rfl:=hw2.symm;clear HL;go_wp2_with fail
     refine HC.out.mono ?_;rintro e w3 ⟨hs1,hs3,vt,v3,rfl,hp1,hp3,h3,hh3,hop3⟩;have htt:tot hs3+1=tot hs:=by
      rw[zmg hp3,tot_rest,zmg hp1];simp only[tot,List.map_cons,List.sum_cons,hes,List.length_cons];omega
     have HT3:Hid (Told ls hs3 ((x,(sN hs 0).no)::P) (nxt out x)):=zrc HT.out hp1 hes (fun s hs'=>by
      obtain⟨i,hi,rfl⟩:=List.getElem_of_mem hs';rw[← sN_eq hi];exact HP_min HH.out i hi) hp3
     have HH3:Hid (HP hs3 hs3.length):=hh3;have ho3:=ownE_hop h ho hop3;generalize (x,(sN hs 0).no)::P=P3 at HT3;have hgk3:tot hs3+1≤gk:=by omega
     have HOL:Hid (out.length+(tot hs3+1)≤6000):=by unfold Hid;rw[htt];exact hol
     clear h ho hce HC HH HT hp1 hp3 hh3 hop3 hes hgk htt hol hcs;cases gk with
     | zero=>exfalso;omega
     | succ g =>
      have hx4:=zad w3 x 94;have bX:=za w3 (.cells #[.string x.key,.string x.val,.int .i64 x.seq,.bool x.gone] 94);have h4:=h3.below bX;have ho4:=ho3.below bX;clear h3 ho3 bX;obtain⟨on,hon⟩:∃ on,on=out.length:=⟨_,rfl⟩;obtain⟨ao,co,hvo,hlo,hmo,_⟩:=id ho4.rd;rw[← hon] at hvo hlo;subst hvo;unfold maxLen at hmo;have HON:Hid (on=out.length):=hon;clear hon;by_cases h0:on=0
      ·skip
       have HNX:Hid (nxt out x=out++[x]):=zpb (.inl (by rw[← HON.out];exact h0));have h0b:((on:Int)==0)=true:=by simp;omega
       clear h0;go_wp2_with fail
       refine wp_region_noPanic ?_;refine wp_region_held_drew (S:=fun _=>True) (by kernel_rfl) trivial (fun hH=>?_);refine kA 0 30 hH ?_;refine kA 1 31 hH ?_;refine kA 2 32 hH ?_;refine kA 3 33 hH ?_;refine kS 4 34 hH ?_;refine kS 5 35 hH ?_;refine kS 6 36 hH ?_;refine kS 7 37 hH ?_;refine kS 8 38 hH ?_;refine kS 9 39 hH ?_;refine kS 10 40 hH ?_;refine kS 11 41 hH ?_;refine kS 12 42 hH ?_;refine kA 13 43 hH ?_;refine dne ?_;replace h4:Hp w (w3.alloc (.cells #[.string x.key,.string x.val,.int .i64 x.seq,.bool x.gone] 94)).drew sb v3 hs3:=h4.below ((Below.refl _ _).drew);replace ho4:OwnE (w3.alloc (.cells #[.string x.key,.string x.val,.int .i64 x.seq,.bool x.gone] 94)).drew w.heap.size (.slice ao on co) out:=ho4;replace hx4:EntAt (w3.alloc (.cells #[.string x.key,.string x.val,.int .i64 x.seq,.bool x.gone] 94)).drew w3.heap.size 0 x:=hx4;generalize (w3.alloc (.cells #[.string x.key,.string x.val,.int .i64 x.seq,.bool x.gone] 94)).drew=W4 at h4 ho4 hx4 ⊢;obtain⟨c0,c1,c2,c3⟩:=id hx4;simp only[Nat.zero_add] at c1 c2 c3;have bA:=za W4 (.cells #[.string x.key,.string x.val,.int .i64 x.seq,.bool x.gone] 94);have ho5:=ho4.below bA;have h5:=h4.below bA;have own1:=zcj W4 x;have hsz5:=h5.bel.size;clear h4 ho4 bA;go_wp2_with (at_builtin;(refine zi rfl _ _ rfl w.heap.size _ _ out [x] rfl rfl ho5 own1.rd (by have:=HOL.out;simp;omega) hsz5 ?_))
       intro v6 w6 ho6 hg6;have h6:=h5.grown ho5 (Nat.le_refl _) hg6;rw[HNX.out] at HT3;clear h5 ho5 own1 hg6 hx4 c0 c1 c2 c3 hsz5;go_wp2;go_roundg g
       case rel=>exact⟨v3,hs3,_,out++[x],by omega,h6,HH3,HT3,ho6,by have:=HOL.out;rw[List.length_append];simp;omega⟩
       case measure=>omega
      ·obtain⟨j,hj⟩:∃ j,j=on-1:=⟨_,rfl⟩;have hkj:(on:Int)-1=(j:Int):=by omega
       have hwj:IntKind.i64.wrap (j:Int)=(j:Int):=by rw[IntKind.wrap_i64];omega
       have hjn:j<on:=by omega
       have hjc:j<co:=by omega
       have h0b:((on:Int)==0)=false:=by simp;omega
       obtain⟨bo,oo,rfl,hy⟩:=ho4.rd.at HON.out j (by rw[← HON.out];exact hjn);obtain⟨y,hyy⟩:∃ y,y=nth out j:=⟨_,rfl⟩;rw[← hyy] at hy;have HY:Hid (y=nth out (out.length-1)):=by unfold Hid;rw[hyy,hj,HON.out]
       have HO0:Hid (0<out.length):=by unfold Hid;rw[← HON.out];omega
       have HCO:Hid (∀ W,Calls Tryz.prog 200 #[.agg #[.string y.key,.string y.val,.int .i64 y.seq,.bool y.gone],.agg #[.string x.key,.string x.val,.int .i64 x.seq,.bool x.gone]] W fun e w'=>e=.returned (.int .i64 (ordE y x))∧Below W.heap.size W w'):=fun W=>zaq y x W
       have hbd:=zp1 y x;clear hyy hj h0;cases hk:zz y x with
       | false =>
        have HNX:Hid (nxt out x=out++[x]):=zpb (.inr (by rw[← HY.out];exact hk));have hoz:(ordE y x != 0)=true:=by
         simp only[bne_iff_ne,ne_eq];intro e;rw[(zds y x).1 e] at hk;cases hk
        generalize ordE y x=oxy at HCO hoz hbd;go_wp2_with fail
        refine wp_region_noPanic ?_;refine wp_region_held_drew (S:=fun W=>EntAt W bo (oo+j*4) y∧EntAt W w3.heap.size 0 x) (by kernel_rfl) ⟨hy,hx4⟩ (fun hH=>?_);refine kA 0 30 hH ?_;refine kA 1 31 hH ?_;refine kA 2 32 hH ?_;refine kA 3 33 hH ?_;refine kA 4 34 hH ?_;refine kA 5 35 hH ?_;refine kA 6 36 hH ?_;refine kA 7 37 hH ?_;refine kA 8 38 hH ?_;refine kA 9 39 hH ?_;refine kA 10 40 hH ?_;refine rdy 11 (fun K hK=>?_);go_simp;refine(HCO.out _).mono ?_;rintro e w5 ⟨rfl,hb5⟩;refine hK.out _ _ ⟨hH.1.below hb5,hH.2.below hb5⟩ (fun hB=>?_);clear hK K;try simp only[Act.put,sA,sZ,sS]
        refine kA 12 42 hB ?_;refine kA 13 43 hB ?_;refine dne ?_;have b5:Below (w3.alloc (.cells #[.string x.key,.string x.val,.int .i64 x.seq,.bool x.gone] 94)).heap.size (w3.alloc (.cells #[.string x.key,.string x.val,.int .i64 x.seq,.bool x.gone] 94)) w5:=((Below.refl _ _).drew).trans hb5;replace h4:=h4.below b5;replace ho4:=ho4.below b5;replace hx4:=hB.2;clear hB hH hb5 b5 hy HCO;obtain⟨c0,c1,c2,c3⟩:=id hx4;simp only[Nat.zero_add] at c1 c2 c3;have bA:=za w5 (.cells #[.string x.key,.string x.val,.int .i64 x.seq,.bool x.gone] 94);have ho5:=ho4.below bA;have h5:=h4.below bA;have own1:=zcj w5 x;have hsz5:=h5.bel.size;clear h4 ho4 bA;go_wp2_with (at_builtin;(refine zi rfl _ _ rfl w.heap.size _ _ out [x] rfl rfl ho5 own1.rd (by have:=HOL.out;simp;omega) hsz5 ?_))
        intro v6 w6 ho6 hg6;have h6:=h5.grown ho5 (Nat.le_refl _) hg6;rw[HNX.out] at HT3;clear h5 ho5 own1 hg6 hx4 c0 c1 c2 c3 hsz5;go_wp2;go_roundg g
        case rel=>exact⟨v3,hs3,_,out++[x],by omega,h6,HH3,HT3,ho6,by have:=HOL.out;rw[List.length_append];simp;omega⟩
        case measure=>omega
       | true =>
        have HNX:Hid (nxt out x=out):=nxt_old HO0.out (by rw[← HY.out];exact hk);have hoz:(ordE y x != 0)=false:=by
         simp only[bne_eq_false_iff_eq];exact(zds y x).2 hk
        generalize ordE y x=oxy at HCO hoz hbd;go_wp2_with fail
        refine wp_region_noPanic ?_;refine wp_region_held_drew (S:=fun W=>EntAt W bo (oo+j*4) y∧EntAt W w3.heap.size 0 x) (by kernel_rfl) ⟨hy,hx4⟩ (fun hH=>?_);refine kA 0 30 hH ?_;refine kA 1 31 hH ?_;refine kA 2 32 hH ?_;refine kA 3 33 hH ?_;refine kA 4 34 hH ?_;refine kA 5 35 hH ?_;refine kA 6 36 hH ?_;refine kA 7 37 hH ?_;refine kA 8 38 hH ?_;refine kA 9 39 hH ?_;refine kA 10 40 hH ?_;refine rdy 11 (fun K hK=>?_);go_simp;refine(HCO.out _).mono ?_;rintro e w5 ⟨rfl,hb5⟩;refine hK.out _ _ ⟨hH.1.below hb5,hH.2.below hb5⟩ (fun hB=>?_);clear hK K;try simp only[Act.put,sA,sZ,sS]
        refine kA 12 42 hB ?_;refine kA 13 43 hB ?_;refine dne ?_;have b5:Below (w3.alloc (.cells #[.string x.key,.string x.val,.int .i64 x.seq,.bool x.gone] 94)).heap.size (w3.alloc (.cells #[.string x.key,.string x.val,.int .i64 x.seq,.bool x.gone] 94)) w5:=((Below.refl _ _).drew).trans hb5;replace h4:=h4.below b5;replace ho4:=ho4.below b5;rw[HNX.out] at HT3;clear hB hH hb5 b5 hy HCO hx4;go_wp2;go_roundg g
        case rel=>exact⟨v3,hs3,_,out,by omega,h4,HH3,HT3,ho4,by have:=HOL.out;omega⟩
        case measure=>omega
open Go.RowKit
def zdK(w:World)(ls:List (List Ent))(e:Ending)(w':World):Prop :=
 ∃ u,e=.returned (.tuple #[u,.bool (zaR ls).2])∧OwnE w' w.heap.size u (zaR ls).1∧Below w.heap.size w w'
def lsOk(ls:List (List Ent)):Bool:=decide (ls.length≤20)&&ls.all okL
theorem lsOk_no{ls:List (List Ent)}(h:lsOk ls=false):zaR ls=([],false):=by
 unfold zaR zdX;unfold lsOk at h;rw[h];rfl
theorem lsOk_yes{ls:List (List Ent)}(h:lsOk ls=true):zaR ls=if (zk ls).length≤300 then (zk ls,true) else ([],false):=by
 unfold zaR zdX;unfold lsOk at h;rw[h,Bool.true_and];by_cases h2:(zk ls).length≤300<;>simp[h2]
theorem zot{ls:List (List Ent)}{k:Nat}{l:List Ent}(h:ls[k]? = some l)(ho:okL l=false):lsOk ls=false:=by
 unfold lsOk;have:ls.all okL=false:=by
  rw[List.all_eq_false];exact⟨l,List.mem_of_getElem? h,by rw[ho];simp⟩
 rw[this,Bool.and_false]
theorem all_to{ls:List (List Ent)}(h:∀ (k:Nat) (l:List Ent),k<ls.length→ls[k]? = some l→okL l=true):ls.all okL=true:=by
 rw[List.all_eq_true];intro l hl;obtain⟨k,hk,rfl⟩:=List.getElem_of_mem hl;exact h k _ hk (List.getElem?_eq_getElem hk)
theorem Pieces.at{w:World}{v:Value}{ps:List (Value×List Ent)}(hp:Pieces w v ps):∃ a cap,v=.slice a ps.length cap∧ps.length≤cap∧cap≤maxLen ∧
 ∀ k,k<ps.length→∀ w',Below w.heap.size w w'→∃ b off aa zn cc zs,a=some ⟨b,off,none⟩∧w'.cell? ⟨b,off+k,none⟩=some (.slice aa zn cc)∧RdE w' (.slice aa zn cc) zs∧(ps.map (·.2))[k]? = some zs:=by
 have hp':=hp;rcases hp with ⟨rfl,rfl⟩ | ⟨b,off,cap,rfl,h1,h2,hc⟩
 ·exact⟨none,0,rfl,Nat.le_refl _,Nat.zero_le _,fun k hk=>by simp at hk⟩
 ·refine⟨_,cap,rfl,h1,h2,fun k hk w' hb=>?_⟩;obtain⟨aa,cc,hu,_⟩:=id (hc k hk).2;have e1:=(hc k hk).1;have e2:=(hc k hk).2;rw[hu] at e1 e2;exact⟨b,off,aa,_,cc,_,rfl,(hb.cell (World.block_lt_of_cell? w _ e1)).trans e1,e2.below hb,by simp[hk]⟩
theorem zlu(v:Value)(ps:List (Value×List Ent))(w:World)(hp:Pieces w v ps)(hf:∀ p∈ps,∀ e∈p.2,Fits e) :
 Calls Tryz.prog 192 #[v] w fun e w'=>e=.returned (.bool (lsOk (ps.map (·.2))))∧Below w.heap.size w w':=by
 obtain⟨a,cap,hv,hla,hma,hat⟩:=hp.at;obtain⟨ls,hls⟩:∃ ls,ls=ps.map (·.2):=⟨_,rfl⟩;have HF:Hid (∀ l∈ls,∀ e∈l,Fits e):=fun l hl=>by
  rw[hls] at hl;obtain⟨p,hp',rfl⟩:=List.mem_map.1 hl;exact hf p hp'
 have hln:ls.length=ps.length:=by rw[hls,List.length_map]
 rw[← hls] at hat ⊢;obtain⟨nn,hnn⟩:∃ nn,nn=ps.length:=⟨_,rfl⟩;rw[← hnn] at hv hla hat hln;have AT:Hid (∀ k,k<nn→_):=hat;have HLN:Hid (ls.length=nn):=hln;unfold maxLen at hma;subst hv;clear hat hln hnn hls hp hf;by_cases h20:20<nn
 ·have RES:Hid (lsOk ls=false):=by
   unfold Hid lsOk;rw[decide_eq_false (by rw[HLN.out];omega),Bool.false_and]
  go_enter Tryz.func192,Tryz.ntmps192
  go_wp2;go_ret;exact⟨zF RES.out.symm,Below.refl _ _⟩
 ·go_enter Tryz.func192,Tryz.ntmps192
  go_wp2;go_loopw [10] (fun i wr=>∃ k:Nat,i=.int .i64 k∧k≤nn∧Hid (∀ (j:Nat) (l:List Ent),j<k→ls[j]? = some l→okL l=true)∧Below w.heap.size w wr) (fun i _=>nn-(intOf i).toNat)
  case atStart=>exact⟨0,rfl,Nat.zero_le _,(fun j l h=>by omega),Below.refl _ _⟩
  case round =>
   obtain⟨k,rfl,hk,HA,hb⟩:=hrel;by_cases hlt:k<nn
   ·obtain⟨b,off,aa,zn,cc,zs,rfl,hc,hrz,hlz⟩:=AT.out k hlt wr hb;have HLZ:Hid (ls[k]? = some zs):=hlz;have HFZ:Hid (∀ e∈zs,Fits e):=HF.out zs (List.mem_of_getElem? hlz);have hkc:k<cap:=by omega
    clear hlz;cases hok:okL zs with
    | false =>
     have RES:Hid (lsOk ls=false):=zot HLZ.out hok;go_wp2_with fail
     refine(zdp _ zs _ hrz HFZ.out hok).mono ?_;rintro e w2 ⟨rfl,hb2⟩;have bz:=hb.trans (hb2.mono hb.size);clear hrz hc hb hb2;go_wp2;go_ret;exact⟨zF RES.out.symm,bz⟩
    | true =>
     have HA2:Hid (∀ (j:Nat) (l:List Ent),j<k+1→ls[j]? = some l→okL l=true):=fun j l hj hl=>by
      by_cases hjk:j=k
      ·rw[hjk,HLZ.out] at hl;rw[← Option.some.inj hl];exact hok
      ·exact HA.out j l (by omega) hl
     go_wp2_with fail
     refine(zaN _ zs _ hrz HFZ.out hok).mono ?_;rintro e w2 ⟨rfl,hb2⟩;have bz:=hb.trans (hb2.mono hb.size);clear hrz hc hb hb2;go_wp2;go_roundw
     case rel=>exact⟨k+1,by go_num,by omega,HA2,bz⟩
     case measure=>simp[intOf];omega
   ·have hke:k=nn:=by omega
    have RES:Hid (lsOk ls=true):=by
     unfold Hid lsOk;rw[decide_eq_true (by rw[HLN.out];omega),Bool.true_and];exact all_to (fun j l hj hl=>HA.out j l (by rw[hke,← HLN.out];exact hj) hl)
    clear hke;go_wp2;go_ret;exact⟨zF RES.out.symm,hb⟩
theorem znf{ps:List (Value×List Ent)}(h:lsOk (ps.map (·.2))=true):ps.length≤20∧∀ p∈ps,okL p.2=true:=by
 unfold lsOk at h;simp only[Bool.and_eq_true,decide_eq_true_eq,List.length_map,List.all_eq_true] at h;exact⟨h.1,fun p hp=>h.2 _ (List.mem_map_of_mem hp)⟩
theorem zhQ(v:Value)(ps:List (Value×List Ent))(w:World)(hp:Pieces w v ps)(hf:∀ p∈ps,∀ e∈p.2,Fits e) :
 Calls Tryz.prog 141 #[v] w fun e w'=>zdK w (ps.map (·.2)) e w':=by
 have HC:Hid (Calls _ _ _ _ _):=zlu v ps w hp hf;cases hk:lsOk (ps.map (·.2)) with
 | false =>
  have HR:Hid (zaR (ps.map (·.2))=([],false)):=lsOk_no hk;rw[hk] at HC;unfold zdK;rw[HR.out];clear HR hk hp hf;go_enter Tryz.func141,Tryz.ntmps141
  go_wp2_with fail
  refine HC.out.mono ?_;rintro e w1 ⟨rfl,hb1⟩;have bz:=hb1.alloc hb1.size (.cells #[] 94);have ho:=(zS w1).mono hb1.size;go_wp2;go_ret2
  exact⟨_,rfl,ho,bz⟩
 | true =>
  obtain⟨h20,hok⟩:=znf hk;have HR:Hid (zaR (ps.map (·.2))=_):=lsOk_yes hk;have HM:Hid (∀ W,Below w.heap.size w W→Calls Tryz.prog 193 #[v] W fun e w'=>zdI W (zk (ps.map (·.2))) e w'):=fun W hb=>zc3 v ps W (hp.below hb) h20 hok
  rw[hk] at HC;generalize zk (ps.map (·.2))=M at HM HR;clear hk hp hf h20 hok;go_enter Tryz.func141,Tryz.ntmps141
  go_wp2_with fail
  refine HC.out.mono ?_;rintro e w1 ⟨rfl,hb1⟩;go_wp2_with fail
  refine(HM.out _ hb1).mono ?_;rintro e w2 ⟨u,rfl,ho2,hb2⟩;have b2:=hb1.trans (hb2.mono hb1.size);have ho3:=ho2.mono hb1.size;obtain⟨au,cu,hvu,hlu,hmu,-⟩:=id ho3.rd;obtain⟨mn,hmn⟩:∃ mn,mn=M.length:=⟨_,rfl⟩;rw[← hmn] at hvu hlu;subst hvu;unfold maxLen at hmu;have HMN:Hid (mn=M.length):=hmn;clear hmn hb1 hb2 ho2 HM HC;by_cases hm:300<mn
  ·have HR2:Hid (zaR (ps.map (·.2))=([],false)):=by unfold Hid;rw[HR.out,if_neg (by rw[← HMN.out];omega)]
   have bz:=b2.alloc b2.size (.cells #[] 94);have ho:=(zS w2).mono b2.size;clear HR;go_wp2;go_ret2
   unfold zdK;rw[HR2.out];exact⟨_,rfl,ho,bz⟩
  ·have HR2:Hid (zaR (ps.map (·.2))=(M,true)):=by unfold Hid;rw[HR.out,if_pos (by rw[← HMN.out];omega)]
   clear HR;go_wp2;go_ret2
   unfold zdK;rw[HR2.out];exact⟨_,rfl,ho3,b2⟩
open Go.RowKit
structure OwnLL (w:World) (lo mid hi:Nat) (v:Value) (us:List (Value×List Ent)):Prop where
 row:OwnP w lo v us
 rowlt:∀ k,v.ownBlock=some k→k<mid
 ins:∀ p∈us,OwnE w mid p.1 p.2∧∀ k,p.1.ownBlock=some k→k<hi
 apart:us.Pairwise (fun p q=>∀ k,p.1.ownBlock=some k→q.1.ownBlock≠some k)
 le:lo≤mid
theorem OwnLL.below{w w':World}{lo mid hi:Nat}{v:Value}{us:List (Value×List Ent)}(h:OwnLL w lo mid hi v us)(hb:Below w.heap.size w w'):OwnLL w' lo mid hi v us :=
 ⟨h.row.below hb,h.rowlt,fun p hp=>⟨(h.ins p hp).1.below hb,(h.ins p hp).2⟩,h.apart,h.le⟩
theorem OwnLL.pieces{w:World}{lo mid hi:Nat}{v:Value}{us:List (Value×List Ent)}(h:OwnLL w lo mid hi v us):Pieces w v us:=h.row.pieces (fun p hp=>(h.ins p hp).1.rd)
def Lists(w:World)(v:Value)(ps:List (Value×List Ent)):Prop :=
 ∃ a cap,v=.slice a ps.length cap∧ps.length≤cap∧cap≤maxLen∧(ps=[]∨∃ b off,a=some ⟨b,off,none⟩∧∀ i (h:i<ps.length),w.cell? ⟨b,off+i,none⟩=some (ps[i].1)∧RdE w ps[i].1 ps[i].2)
theorem Lists.below{w w':World}{v:Value}{ps:List (Value×List Ent)}(h:Lists w v ps)(hb:Below w.heap.size w w'):Lists w' v ps:=by
 obtain⟨a,cap,hv,h1,h2,h3⟩:=h;refine⟨a,cap,hv,h1,h2,?_⟩;rcases h3 with h3 | ⟨b,off,ha,hc⟩
 ·exact .inl h3
 ·exact .inr ⟨b,off,ha,fun i hi=>⟨by rw[hb.cell (World.block_lt_of_cell? w _ (hc i hi).1)];exact(hc i hi).1,(hc i hi).2.below hb⟩⟩
theorem Lists.at{w:World}{v:Value}{ps:List (Value×List Ent)}(hp:Lists w v ps):∃ a cap,v=.slice a ps.length cap∧ps.length≤cap∧cap≤maxLen ∧
 ∀ k,k<ps.length→∀ w',Below w.heap.size w w'→∃ b off aa zn cc zs,a=some ⟨b,off,none⟩∧w'.cell? ⟨b,off+k,none⟩=some (.slice aa zn cc)∧RdE w' (.slice aa zn cc) zs∧(ps.map (·.2))[k]? = some zs:=by
 obtain⟨a,cap,hv,h1,h2,h3⟩:=hp;refine⟨a,cap,hv,h1,h2,fun k hk w' hb=>?_⟩;rcases h3 with h3 | ⟨b,off,ha,hc⟩
 ·subst h3;simp at hk
 ·obtain⟨aa,cc,hu,_⟩:=id (hc k hk).2;have e1:=(hc k hk).1;have e2:=(hc k hk).2;rw[hu] at e1 e2;exact⟨b,off,aa,_,cc,_,ha,(hb.cell (World.block_lt_of_cell? w _ e1)).trans e1,e2.below hb,by simp[hk]⟩
open Go.RowKit Go.ChangeShapes Go.WideShapes
def Held(e:Ent):Prop:=e.key.size≤maxLen∧e.val.size≤maxLen∧-9223372036854775808≤e.seq∧e.seq≤9223372036854775807
open Go.RowKit
def HeldT(T:Tbl):Prop:=T.first.size≤maxLen∧T.last.size≤maxLen∧∀ s∈T.blocks,s.size≤maxLen
def SmallT(T:Tbl):Prop:=T.first.size≤1048576∧T.last.size≤1048576∧∀ s∈T.blocks,s.size≤1048576
def tsz(ts:List TV):Nat:=(ts.map (fun t=>1+t.T.bits.length+t.T.blocks.length)).sum
structure HeldTr (X:TrX):Prop where
 mem:∀ e∈X.mem,Held e
 young:∀ t∈X.ys,HeldT t.T
 old:∀ t∈X.os,HeldT t.T
structure SmallTr (X:TrX):Prop where
 sum:X.mem.length+tsz X.ys+tsz X.os+X.snaps.length≤1048576
 mem:∀ x∈X.mem,x.key.size≤1048576∧x.val.size≤1048576
 young:∀ t∈X.ys,SmallT t.T
 old:∀ t∈X.os,SmallT t.T
theorem SmallTr.fit{X:TrX}(h:SmallTr X)(hh:HeldTr X):FitTr X :=
 ⟨fun e he=>⟨by have:=(h.mem e he).1;omega,by have:=(h.mem e he).2;omega,(hh.mem e he).2.2.1,(hh.mem e he).2.2.2⟩,fun t ht s hs=>by have:=(h.young t ht).2.2 s hs;omega,fun t ht s hs=>by have:=(h.old t ht).2.2 s hs;omega⟩
end Go.Proofs.YtannfbpohhnnkaaGreatDoor
