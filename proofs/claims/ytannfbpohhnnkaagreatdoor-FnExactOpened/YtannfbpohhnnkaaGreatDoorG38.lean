import Derived.Test.YtannfbpohhnnkaaGreatDoorG37
import Derived.BigQuiet
import Derived.Deep.RegionWith
import Derived.Test.YtannfbpohhnnkaaGreatDoorShelf
import Derived.Lib.ParseIntB
import Derived.Lib.ParseIntBCases
import Derived.Lib.IndexLaws
namespace Go.Proofs.YtannfbpohhnnkaaGreatDoor
set_option maxHeartbeats 16000000
set_option maxRecDepth 100000
open Go.RowKit
theorem zh2(bs:List UInt8)(ss:List ByteArray)(ok:Bool)(h:fin bs (rdAll bs)=(ss,ok)):ss.length≤200∧∀ s∈ss,s.size≤3000:=by
 cases ok with
 | false =>
  have:=fin_no bs ss h;subst this;exact⟨Nat.zero_le _,fun s hs=>by cases hs⟩
 | true =>
  have e:=zmt bs ss h;refine Decidable.byContradiction fun hn=>?_
  have e2:zac ss=[]:=by
   unfold zac;rw[if_neg hn]
  rw[e2] at e;subst e;rw[show fin [] (rdAll [])=([],false) by rfl] at h;cases h
def ziz(w:World)(F:List Wri×Bool)(e:Ending)(w':World):Prop:=∃ u,e=.returned (.tuple #[u,.bool F.2])∧OwnW w' w.heap.size u F.1∧Below w.heap.size w w'
theorem zct{w wr:World}{B:Nat}{F:List Wri×Bool}{u:Value}(h:F=([],false))(ho:OwnW wr B u [])(hB:w.heap.size≤B)(hb:Below w.heap.size w wr):ziz w F (.returned (.tuple #[u,.bool false])) wr:=by
 subst h;exact⟨u,rfl,ho.mono hB,hb⟩
theorem zg7{w wr:World}{B:Nat}{F:List Wri×Bool}{u:Value}{xs:List Wri}(h:F=(xs,true))(ho:OwnW wr B u xs)(hB:w.heap.size≤B)(hb:Below w.heap.size w wr):ziz w F (.returned (.tuple #[u,.bool true])) wr:=by
 subst h;exact⟨u,rfl,ho.mono hB,hb⟩
theorem zoL{s:ByteArray}(h:s.size=0):s.toList.isEmpty=true:=by
 rw[zce,List.isEmpty_iff];exact List.length_eq_zero_iff.1 (by rw[ze];exact h)
theorem emp_no{s:ByteArray}(h:0<s.size):s.toList.isEmpty=false:=by
 rw[zce,List.isEmpty_eq_false_iff];intro e;have:=ze s;rw[e] at this;simp at this;omega
theorem zp8:∀ (n:Nat) (ss:List ByteArray) (xs:List Wri),ss.length≤n→(∀ s∈ss,s.size≤3000)→wrs ss=some xs→xs.length≤ss.length∧∀ x∈xs,x.key.size≤3000∧x.val.size≤3000:=by
 intro n ss xs hl hs h;have e:=zgo n ss xs hl h;subst e;refine⟨by rw[zbK];omega,fun x hx=>⟨hs _ ?_,hs _ ?_⟩⟩
 ·exact List.mem_flatMap.2 ⟨x,hx,by simp[trio]⟩
 ·exact List.mem_flatMap.2 ⟨x,hx,by simp[trio]⟩
theorem zfw(s:ByteArray)(F:List Wri×Bool)(w:World)(hs:s.size≤1048576)(hF:RB s F) :
 Calls Tryz.prog 78 #[.string s] w fun e w'=>ziz w F e w':=by
 have hcv:=zcB w s;have hrd:=ze6 w s (by unfold maxLen;omega);have hbl:=zbH w s;generalize Lib.bytesWorld w 5 s=W at hcv hrd hbl;generalize grownCap w s.size 0 5=c0 at hcv hrd;obtain⟨ss,ok,hf⟩:∃ ss ok,fin s.data.toList (rdAll s.data.toList)=(ss,ok):=⟨_,_,rfl⟩;have HR:Hid (∀ v W,Rd W v s.data.toList→Calls Tryz.prog 116 #[v] W fun e w'=>zcG W (ss,ok) e w'):=fun v W h=>by
  have:=zfi v _ W h;rw[hf] at this;exact this
 have hsm:=zh2 _ _ _ hf;have HRB:=rb_impl hF hf;obtain⟨xs,hxs⟩:∃ xs,xs=(wrs ss).getD []:=⟨_,rfl⟩;have hx2:xs.length≤200∧∀ x∈xs,x.key.size≤3000∧x.val.size≤3000:=by
  rw[hxs];cases hw:wrs ss with
  | none=>exact⟨Nat.zero_le _,fun x hx=>by cases hx⟩
  | some l =>
   have:=zp8 _ ss l (Nat.le_refl _) hsm.2 hw;exact⟨by show l.length≤200;omega,this.2⟩
 rw[← hxs] at HRB;have HWS:Hid (∀ v W,RdS W v ss→Calls Tryz.prog 117 #[v] W fun e w'=>∃ u,e=.returned u∧OwnW w' W.heap.size u xs∧Below W.heap.size W w'):=fun v W h=>by rw[hxs];exact zj5 v ss W h hsm.1
 have HBA:Hid (∀ v W,RdW W v xs→Calls Tryz.prog 49 #[v] W fun e w'=>e=.returned (.string (batS xs))∧Below W.heap.size W w'):=fun v W h=>zeG v xs W h (fun x hx=>⟨by have:=(hx2.2 x hx).1;omega,by have:=(hx2.2 x hx).2;omega⟩)
 clear hf hsm hx2 hxs hF;go_enter Tryz.func78,Tryz.ntmps78
 go_wp2_with fail
 refine(HR.out _ _ hrd).mono ?_;rintro e w1 ⟨v1,rfl,ho1,hb1⟩;have b1:=hbl.trans (hb1.mono hbl.size);clear hcv hrd hbl hb1 HR;go_wp2_with fail
 refine(HWS.out _ _ ho1.rd).mono ?_;rintro e w2 ⟨v2,rfl,ho2,hb2⟩;have b2:=b1.trans (hb2.mono b1.size);have s1:=b1.size;clear hb2 b1 HWS ho1;go_wp2_with fail
 refine(HBA.out _ _ ho2.rd).mono ?_;generalize batS xs=t at HRB;rintro e w3 ⟨rfl,hb3⟩;have b3:=b2.trans (hb3.mono b2.size);have ho3:=ho2.below hb3;clear hb3 b2 ho2 HBA;rcases HRB with ⟨hF,hz⟩ | ⟨hF,hz⟩
 ·have hem:=emp_no hz;have HF:Hid (F=(xs,true)):=hF;clear hF hz;go_wp2;go_ret2
  exact zg7 HF.out ho3 s1 b3
 ·have hem:=zoL hz;have HF:Hid (F=([],false)):=hF;have hn:=zdz w3;have b4:=b3.alloc b3.size (.cells #[] 77);have s3:=b3.size;clear hF hz;go_wp2;go_ret2
  exact zct HF.out hn s3 b4
theorem bne_no(t:ByteArray):(!t.toList==t.toList)=false:=by simp
theorem bne_yes{t s:ByteArray}(h:t≠s):(!t.toList==s.toList)=true:=by
 simp only[Bool.not_eq_true',beq_eq_false_iff_ne];rw[zce,zce];exact fun e=>h (ziD e)
theorem zfC(s:ByteArray)(F:List Wri×Bool)(w:World)(hs:s.size≤1048576)(hF:RB s F) :
 Calls Tryz.prog 65 #[.string s] w fun e w'=>ziz w F e w':=by
 have hcv:=zcB w s;have hrd:=ze6 w s (by unfold maxLen;omega);have hbl:=zbH w s;generalize Lib.bytesWorld w 5 s=W at hcv hrd hbl;generalize grownCap w s.size 0 5=c0 at hcv hrd;obtain⟨ss,ok,hf⟩:∃ ss ok,fin s.data.toList (rdAll s.data.toList)=(ss,ok):=⟨_,_,rfl⟩;have HR:Hid (∀ v W,Rd W v s.data.toList→Calls Tryz.prog 104 #[v] W fun e w'=>zcG W (ss,ok) e w'):=fun v W h=>by
  have:=zfl v _ W h;rw[hf] at this;exact this
 have hsm:=zh2 _ _ _ hf;have HRB:=rb_spec hF hf;have HSM:Hid (ss.length≤200∧∀ s∈ss,s.size≤3000):=hsm;clear hf hsm hF;go_enter Tryz.func65,Tryz.ntmps65
 go_wp2_with fail
 refine(HR.out _ _ hrd).mono ?_;rintro e w1 ⟨v1,rfl,ho1,hb1⟩;have b1:=hbl.trans (hb1.mono hbl.size);have s1:=b1.size;have HBW:Hid (Below w.heap.size w w1):=b1;have hn:=zdz w1;have b2:=b1.alloc s1 (.cells #[] 77);have HO1:Hid (RdS w1 v1 ss):=ho1.rd;obtain⟨av,cap,hv1,hlc,hcm,-⟩:=ho1.rd;unfold maxLen at hcm;subst hv1;have r2:=ho1.below (za w1 (.cells #[] 77));clear hcv hrd hbl hb1 HR b1 ho1;by_cases hgo:ok=true∧ss.length % 3=0
 ·obtain⟨rfl,h3⟩:=hgo;obtain⟨n,hn0⟩:∃ n,n=ss.length:=⟨_,rfl⟩;have HN:Hid (n=ss.length):=hn0;have hlen:n≤200:=by have:=HSM.out.1;omega
  have HSZ:Hid (∀ s∈ss,s.size≤3000):=HSM.out.2;rw[← hn0] at hlc h3 ⊢;have h3i:(n:Int).tmod 3=0:=by rw[Int.tmod_eq_emod_of_nonneg (by omega)];omega
  have h3e:(n:Int) % 3=0:=by omega
  have hq3:(((n:Int) % 3) != 0)=false:=by rw[h3e];rfl
  clear hn0 HSM;go_wp2;go_loopw [6,7] (fun oo ii wr=>∃ (p:Nat) (done:List Wri),ii=.int .i64 p∧p≤n∧p % 3=0∧done.length≤p∧Hid (grp ss=done++grp (ss.drop p))∧Hid (∀ x∈done,x.key.size≤3000∧x.val.size≤3000)∧OwnW wr w1.heap.size oo done∧Below w1.heap.size w1 wr) (fun _ ii _=>n-(intOf ii).toNat)
  case atStart=>exact⟨0,[],rfl,Nat.zero_le _,rfl,Nat.le_refl _,rfl,(fun x hx=>by cases hx),hn,za w1 _⟩
  case round =>
   clear hn b2 r2;obtain⟨p,done,rfl,hp,hp3,hdl,HG,HDS,ho,hb⟩:=hrel;by_cases hlt:p<n
   ·have hle:p+3≤n:=by omega
    have hpl:p+3≤ss.length:=by rw[← HN.out];exact hle
    obtain⟨bt,off,hav,hcs⟩:∃ bt off,av=some ⟨bt,off,none⟩∧∀ W,Below w1.heap.size w1 W→W.cell? ⟨bt,off+p,none⟩=some (.string ss[p])∧W.cell? ⟨bt,off+(p+1),none⟩=some (.string ss[p+1])∧W.cell? ⟨bt,off+(p+2),none⟩=some (.string ss[p+2]):=by
     obtain⟨av',cap',e,-,-,hA⟩:=HO1.out;cases e
     rcases hA with h | ⟨bt,off,ha,hc⟩
     ·rw[h] at hpl;simp at hpl
     ·refine⟨bt,off,ha,fun W hW=>⟨?_,?_,?_⟩⟩
      ·rw[hW.cell (World.block_lt_of_cell? w1 _ (hc p (by omega)))];exact hc p (by omega)
      ·rw[hW.cell (World.block_lt_of_cell? w1 _ (hc (p+1) (by omega)))];exact hc (p+1) (by omega)
      ·rw[hW.cell (World.block_lt_of_cell? w1 _ (hc (p+2) (by omega)))];exact hc (p+2) (by omega)
    have HGN:Hid (grp ss=(done++[⟨ss[p],ss[p+1],ss[p+2].toList == [49]⟩])++grp (ss.drop (p+3))):=by
     unfold Hid;rw[HG.out,grp_at hpl,List.append_assoc];rfl
    have hsa:=HSZ.out ss[p] (List.getElem_mem _);have hsb:=HSZ.out ss[p+1] (List.getElem_mem _);generalize ss[p]=ta at hcs HGN hsa;generalize ss[p+1]=tb at hcs HGN hsb;generalize ss[p+2]=tg at hcs HGN;obtain⟨gg,hgg⟩:∃ gg,gg=(tg.toList == [49]):=⟨_,rfl⟩;rw[← hgg] at HGN;have HDN:Hid (∀ x∈done++[⟨ta,tb,gg⟩],x.key.size≤3000∧x.val.size≤3000):=fun x hx=>by
     rcases List.mem_append.1 hx with h | h
     ·exact HDS.out x h
     ·rw[List.mem_singleton.1 h];exact⟨hsa,hsb⟩
    have HGG:Hid ((tg.toList == [49])=gg):=hgg.symm;obtain⟨p1,hp1⟩:∃ p1,p1=p+1:=⟨_,rfl⟩;obtain⟨p2,hp2⟩:∃ p2,p2=p+2:=⟨_,rfl⟩;rw[← hp1,← hp2] at hcs;have HCS:Hid (∀ W,Below w1.heap.size w1 W→W.cell? ⟨bt,off+p,none⟩=some (.string ta)∧W.cell? ⟨bt,off+p1,none⟩=some (.string tb)∧W.cell? ⟨bt,off+p2,none⟩=some (.string tg)):=hcs;obtain⟨e0,e1,e2⟩:=hcs _ hb;have i1:(p:Int)+1=(p1:Int):=by omega
    have i2:(p:Int)+2=(p2:Int):=by omega
    have w1':IntKind.i64.wrap (p1:Int)=(p1:Int):=by rw[IntKind.wrap_i64];omega
    have w2':IntKind.i64.wrap (p2:Int)=(p2:Int):=by rw[IntKind.wrap_i64];omega
    have l1:p1<n:=by omega
    have l2:p2<n:=by omega
    have j0:(0:Int)≤(p:Int):=by omega
    have j1:(0:Int)≤(p1:Int):=by omega
    have j2:(0:Int)≤(p2:Int):=by omega
    subst hav;clear hpl HG hgg hp1 hp2 HDS hsa hsb hcs;go_wp2_with fail
    refine wp_region_noPanic ?_;refine wp_region_held_drew (S:=fun W=>W.cell? ⟨bt,off+p,none⟩=some (.string ta)∧W.cell? ⟨bt,off+p1,none⟩=some (.string tb)∧W.cell? ⟨bt,off+p2,none⟩=some (.string tg)) (by kernel_rfl) ⟨e0,e1,e2⟩ (fun hH=>?_);have qo:OwnW wr.drew _ _ done:=ho.drewN 1;have qb:=hb.drew;clear ho hb e0 e1 e2;revert hH qo qb;generalize wr.drew=W0;intro hH qo qb;refine kG 0 30 hH ?_;refine kG 1 31 hH ?_;refine kG 2 32 hH ?_;refine kG 3 33 hH ?_;refine kG 4 34 hH ?_;refine kG 5 35 hH ?_;refine kG 6 36 hH ?_;refine kG 7 37 hH ?_;refine kG 8 38 hH ?_;refine kG 9 39 hH ?_;refine kG 10 40 hH ?_;refine kG 11 41 hH ?_;refine kG 12 42 hH ?_;refine kG 13 43 hH ?_;refine kG 14 44 hH ?_;refine kG 15 45 hH ?_;rw[HGG.out];refine kG 16 46 hH ?_;have bz:=za W0 (.cells #[.string ta,.string tb,.bool gg] 77);have hx4:=zhg W0 ⟨ta,tb,gg⟩ 77;have o4:=qo.below bz;have b4:=qb.trans (bz.mono qb.size);have s4:=b4.size;have f0:(W0.alloc (.cells #[.string ta,.string tb,.bool gg] 77)).cell? ⟨bt,off+p,none⟩=some (.string ta):=by rw[bz.cell (World.block_lt_of_cell? W0 _ hH.1)];exact hH.1
    have f1:(W0.alloc (.cells #[.string ta,.string tb,.bool gg] 77)).cell? ⟨bt,off+p1,none⟩=some (.string tb):=by rw[bz.cell (World.block_lt_of_cell? W0 _ hH.2.1)];exact hH.2.1
    have f2:(W0.alloc (.cells #[.string ta,.string tb,.bool gg] 77)).cell? ⟨bt,off+p2,none⟩=some (.string tg):=by rw[bz.cell (World.block_lt_of_cell? W0 _ hH.2.2)];exact hH.2.2
    clear bz qo qb;refine rdy 17 (fun K hK=>?_);go_simp;refine hK.out _ _ ⟨f0,f1,f2⟩ (fun hA=>?_);clear hK K;try simp only[Act.put,sA,sZ,sS]
    clear hH f0 f1 f2;generalize W0.alloc (.cells #[.string ta,.string tb,.bool gg] 77)=W3 at hx4 o4 b4 s4 hA ⊢;refine rdy 18 (fun K hK=>?_);refine zgb rfl 48 rfl _ _ rfl w1.heap.size _ _ done [⟨ta,tb,gg⟩] rfl rfl o4 (rdW_one hx4) (by simp;omega) s4 ?_;intro v6 w6 ho6 hg6;have b6:Below w1.heap.size w1 w6:=b4.grown hg6 s4 (fun k hk=>(World.ownsRow.lt o4 k hk).1);refine hK.out _ _ (HCS.out _ b6) (fun hB=>?_);clear hK K;try simp only[Act.put,sA,sZ,sS]
    refine kG 19 6 hB ?_;refine dne ?_;clear hA hB hx4 o4 b4 s4 hg6 HCS;have hd3:(done++[(⟨ta,tb,gg⟩:Wri)]).length≤p+3:=by simp;omega
    have i3:(p:Int)+3≤203:=by omega
    clear i1 i2 w1' w2' j1 j2;go_wp2;go_roundw
    case rel=>exact⟨p+3,_,by go_num,hle,by omega,hd3,HGN,HDN,ho6,b6⟩
    case measure=>simp[intOf];omega
   ·have hpe:p=n:=by omega
    have HE:Hid (grp ss=done):=by unfold Hid;rw[HG.out,grp_end (by rw[← HN.out];omega),List.append_nil]
    have HBA:Hid (∀ v W,RdW W v done→Calls Tryz.prog 86 #[v] W fun e w'=>e=.returned (.string (batS done))∧Below W.heap.size W w'):=fun v W h=>zjg v done W h (fun x hx=>⟨by have:=(HDS.out x hx).1;omega,by have:=(HDS.out x hx).2;omega⟩)
    have HRB2:Hid ((F=(done,true)∧batS done=s∧0<s.size)∨(F=([],false)∧(batS done≠s∨s.size=0))):=by
     rcases HRB with ⟨h1,_,_,h4,h5,h6⟩ | h
     ·rw[HE.out] at h4;refine .inl ⟨?_,by rw[h4];exact h5,h6⟩;obtain⟨f,fb⟩:=F;obtain rfl:fb=true:=h1;obtain rfl:done=f:=h4;rfl
     ·rw[HE.out] at h;exact .inr h
    clear HG HDS hpe HRB HE HO1;go_wp2_with fail
    refine(HBA.out _ _ ho.rd).mono ?_;generalize batS done=t at HRB2;rintro e w3 ⟨rfl,hb3⟩;have b3:=hb.trans (hb3.mono hb.size);have ho3:=ho.below hb3;have bw:=(show Below w.heap.size w w1 from HBW.out).trans (b3.mono s1);clear hb3 hb ho HBA;rcases HRB2.out with ⟨hF,rfl,hz⟩ | ⟨hF,hz⟩
    ·have hem:=emp_no hz;have hbn:=bne_no t;have HF:Hid (F=(done,true)):=hF;clear hF hz HRB2;go_wp2;go_ret2
     exact zg7 HF.out ho3 s1 bw
    ·have HF:Hid (F=([],false)):=hF;have hn:=zdz w3;have b4:=bw.alloc bw.size (.cells #[] 77);have s3:=bw.size;clear hF HRB2;by_cases hts:t=s
     ·subst hts;have hbn:=bne_no t;have hem:=zoL (by rcases hz with h | h;exact absurd rfl h;exact h);clear hz;go_wp2;go_ret2
      exact zct HF.out hn s3 b4
     ·have hbn:=bne_yes hts;clear hz;go_wp2;go_ret2
      exact zct HF.out hn s3 b4
 ·have HF:Hid (F=([],false)):=by
   rcases HRB with ⟨_,h2,h3,_⟩ | ⟨h,_⟩
   ·exact absurd ⟨h2,h3⟩ hgo
   ·exact h
  have s2:=hn.mono s1;clear HRB HSM;cases ok with
  | false =>
   clear hgo;go_wp2;go_ret2
   exact zct HF.out s2 (Nat.le_refl _) b2
  | true =>
   obtain⟨n,hn0⟩:∃ n,n=ss.length:=⟨_,rfl⟩;have h3:n % 3≠0:=fun e=>hgo ⟨rfl,by rw[← hn0];exact e⟩
   rw[← hn0] at hlc ⊢;have hq3:(((n:Int) % 3) != 0)=true:=by simp;omega
   clear hn0 hgo r2 HO1 h3;go_wp2;go_ret2
   exact zct HF.out s2 (Nat.le_refl _) b2
open Go.RowKit
open Go.RowKit
abbrev Tab (w:World):Prop:=Lib.TabIs Tryz.prog w "internal/strconv.uint64pow10" .u64 Lib.pow10Tab
theorem Tab.on{w w':World}(h:Tab w)(hb:Below w.heap.size w w'):Tab w':=Lib.tabBelow_of_tabIs h w' hb
theorem fmt_any(n:Int)(w:World)(h0 : -9223372036854775808≤n)(h1:n≤9223372036854775807)(ht:Tab w) :
 Calls Tryz.prog 169 #[.int .i64 n,.int .i64 10] w fun e w'=>e=.returned (.string (itoaS n))∧Below w.heap.size w w':=by
 refine(Tryz.strconv_FormatInt_10 n h0 h1 w ht).mono ?_;rintro e w' ⟨rfl,k,os,rfl⟩;exact⟨rfl,Lib.below_grow _ w (Nat.le_refl _) k os⟩
open Go.RowKit
theorem zbD(n:Int)(h0 : -9223372036854775808≤n)(h1:n≤9223372036854775807):(itoaS n).size≤21:=by
 have:=Lib.itoa_length_le n h0 h1;show (Lib.itoa n).toArray.size≤21;simpa using this
theorem zlQ(h:Nat)(bs:List UInt8)(hh:h<2147483647):dig h bs<2147483647:=zir bs h hh
theorem zcx(a b:ByteArray):(a++b).data.toList=a.data.toList++b.data.toList:=by simp[ByteArray.data_append]
open Go.RowKit
abbrev blankB:ByteArray:=⟨#[32]⟩
theorem ziC(x lo hi:Int)(w:World):Calls Tryz.prog 31 #[.int .i64 x,.int .i64 lo,.int .i64 hi] w fun e w'=>e=.returned (.bool (decide (lo≤x)&&decide (x≤hi)))∧w'=w:=by
 go_enter Tryz.func31,Tryz.ntmps31
 by_cases h:lo≤x
 ·have h1:decide (lo≤x)=true:=by simp[h]
  go_wp2;go_ret;exact⟨by rw[h1];rfl,rfl⟩
 ·have h1:decide (lo≤x)=false:=by simp[h]
  go_wp2;go_ret;exact⟨rfl,rfl⟩
open Go.RowKit
def isDig(b:UInt8):Prop:=48≤b.toNat∧b.toNat≤57
theorem zgk(k:Nat)(h:k<10):(UInt8.ofNat (48+k)).toNat=48+k:=by rw[UInt8.toNat_ofNat'];omega
theorem zgh:∀ (n u:Nat),u≤n→∀ b∈Lib.decDigits u,isDig b
 | 0,u,hu,b,hb=>by
  have:u=0:=by omega
  subst this;rw[zaM] at hb;have e:left (0 / 10)=[]:=rfl;rw[e,List.nil_append,List.mem_singleton] at hb;subst hb;unfold isDig;rw[zgk _ (by omega)];omega
 | n+1,u,hu,b,hb=>by
  rw[zaM] at hb;rcases List.mem_append.1 hb with h | h
  ·unfold left at h;split at h
   ·cases h
   ·exact zgh n (u / 10) (by omega) b h
  ·rw[List.mem_singleton] at h;subst h;unfold isDig;rw[zgk _ (Nat.mod_lt _ (by omega))];omega
def valD(acc:Nat)(l:List UInt8):Nat:=l.foldl (fun a b=>a*10+(b.toNat-48)) acc
theorem zcZ(a:Nat)(x y:List UInt8):valD a (x++y)=valD (valD a x) y:=List.foldl_append
theorem zp5:∀ (l:List UInt8) (a:Nat),a≤valD a l
 | [],a=>Nat.le_refl _
 | b::l,a=>Nat.le_trans (by omega:a≤a*10+(b.toNat-48)) (zp5 l _)
theorem zlY:∀ (n u:Nat),u≤n→valD 0 (Lib.decDigits u)=u
 | 0,u,hu=>by
  have:u=0:=by omega
  subst this;rw[zaM];rfl
 | n+1,u,hu=>by
  rw[zaM,zcZ];have e:valD 0 (left (u / 10))=u / 10:=by
   unfold left;split
   ·rename_i h;rw[h];rfl
   ·exact zlY n (u / 10) (by omega)
  rw[e];show u / 10*10+((UInt8.ofNat (48+u % 10)).toNat-48)=u;rw[zgk _ (Nat.mod_lt _ (by omega))];omega
theorem zmq:∀ (n u:Nat),u≤n→1≤u→∃ c r,Lib.decDigits u=c::r∧49≤c.toNat∧c.toNat≤57
 | 0,u,hu,h1=>by omega
 | n+1,u,hu,h1=>by
  rw[zaM];by_cases h:u / 10=0
  ·have e:left (u / 10)=[]:=by unfold left;rw[if_pos h]
   rw[e];refine⟨_,[],rfl,?_,?_⟩<;>rw[zgk _ (Nat.mod_lt _ (by omega))]<;>omega
  ·have e:left (u / 10)=Lib.decDigits (u / 10):=by unfold left;rw[if_neg h]
   obtain⟨c,r,e2,h3,h4⟩:=zmq n (u / 10) (by omega) (by omega);rw[e,e2];exact⟨c,r++[UInt8.ofNat (48+u % 10)],rfl,h3,h4⟩
theorem itoa_pos(g:Int)(h:1≤g):Lib.itoa g=Lib.decDigits g.toNat:=by unfold Lib.itoa;rw[if_neg (by omega)]
def zau:List UInt8→List (List UInt8)
 | []=>[[]]
 | c::r=>if c=32 then []::zau r else match zau r with | h::t=>(c::h)::t | []=>[[c]]
theorem words_ne(l:List UInt8):zau l≠[]:=by
 cases l with
 | nil=>simp[zau]
 | cons c r =>
  unfold zau;split
  ·simp
  ·split<;>simp
theorem zeC:∀ (a r:List UInt8),32 ∉ a→zau (a++32::r)=a::zau r
 | [],r,_=>by show zau (32::r)=_;rw[zau,if_pos rfl]
 | c::a,r,h=>by
  have h1:c≠32:=fun e=>h (e ▸ List.mem_cons_self ..)
  have h2:(32:UInt8) ∉ a:=fun e=>h (List.mem_cons_of_mem _ e)
  show zau (c::(a++32::r))=_;rw[zau,if_neg h1,zeC a r h2]
theorem zhJ:∀ (a:List UInt8),32 ∉ a→zau a=[a]
 | [],_=>rfl
 | c::a,h=>by
  have h1:c≠32:=fun e=>h (e ▸ List.mem_cons_self ..)
  have h2:(32:UInt8) ∉ a:=fun e=>h (List.mem_cons_of_mem _ e)
  rw[zau,if_neg h1,zhJ a h2]
open Go.RowKit
theorem zft(b:ByteArray):b.toList=b.data.toList:=ByteArray.toList_eq b
theorem zgO{s:ByteArray}(h:0<s.size):s.toList.isEmpty=false:=by
 rw[zft,List.isEmpty_eq_false_iff];intro e;have:=ze s;rw[e] at this;simp at this;omega
theorem zn4{s:ByteArray}(h:s.size=0):s.toList.isEmpty=true:=by
 rw[zft,List.isEmpty_iff];exact List.length_eq_zero_iff.1 (by rw[ze];exact h)
theorem zm8:∀ (k u:Nat),1≤k→u<10 ^ k→(Lib.decDigits u).length≤k
 | 0,u,h,_=>by omega
 | k+1,u,_,h=>by
  rw[zaM,List.length_append,List.length_singleton];unfold left;split
  ·simp
  ·rename_i h0;by_cases hk:k=0
   ·subst hk;omega
   ·have:=zm8 k (u / 10) (by omega) (by rw[Nat.pow_succ] at h;omega);omega
def NumP(w:World)(e:Ending)(w':World):Prop:=(∃ (n:Int) (b:Bool),e=.returned (.tuple #[.int .i64 n,.bool b]))∧w'=w
theorem numP{w:World}(n:Int)(b:Bool):NumP w (.returned (.tuple #[.int .i64 n,.bool b])) w:=⟨⟨n,b,rfl⟩,rfl⟩
theorem zgD(s:ByteArray)(w:World)(hs:s.size≤1048576) :
 Calls Tryz.prog 146 #[.string s] w fun e w'=>NumP w e w':=by
 by_cases h0:s.size=0
 ·have hne:=zn4 h0;have c1:((s.size:Int)-0<1):=by omega
  go_enter Tryz.func146,Tryz.ntmps146
  go_wp2;go_ret2
  exact numP _ _
 have hp:0<s.size:=by omega
 have hne:=zgO hp;clear h0;by_cases h45:s[0]=45
 ·have hq:((s[0].toNat:Int)==45)=true:=by rw[h45];rfl
  clear h45;by_cases hl:2≤s.size∧s.size≤11
  ·have c1:¬ ((s.size:Int)-1<1):=by omega
   have c2:¬ (10<(s.size:Int)-1):=by omega
   go_enter Tryz.func146,Tryz.ntmps146
   go_wp2;clear c1 c2 hq;go_loop [6,7] (fun nn kk=>∃ (k:Nat) (m:Int),1≤k∧k≤s.size∧kk=.int .i64 k∧nn=.int .i64 m) (fun _ kk=>s.size-(intOf kk).toNat)
   case atStart=>exact⟨1,0,Nat.le_refl _,by omega,rfl,rfl⟩
   case round =>
    obtain⟨k,m,hk1,hk2,rfl,rfl⟩:=hrel;by_cases hlt:k<s.size
    ·by_cases d1:(s[k].toNat:Int)<48
     ·go_wp2;go_ret2
      exact numP _ _
     ·by_cases d2:57<(s[k].toNat:Int)
      ·go_wp2;go_ret2
       exact numP _ _
      ·go_wp2;go_round
       case rel=>exact⟨k+1,_,by omega,by omega,by go_num,rfl⟩
       case measure=>simp[intOf];omega
    ·have hle:1<s.size:=by omega
     by_cases hz:s[1]=48
     ·have hz2:((s[1].toNat:Int)==48)=true:=by rw[hz];rfl
      clear hz;go_wp2;all_goals go_ret2
      all_goals exact numP _ _
     ·have hz2:((s[1].toNat:Int)==48)=false:=by
       simp only[beq_eq_false_iff_ne];intro e;exact hz (UInt8.toNat_inj.1 (by show s[1].toNat=48;omega))
      clear hz;go_wp2;all_goals go_ret2
      all_goals exact numP _ _
  ·go_enter Tryz.func146,Tryz.ntmps146
   by_cases hl2:(s.size:Int)-1<1
   ·go_wp2;go_ret2
    exact numP _ _
   ·have c2:10<(s.size:Int)-1:=by omega
    go_wp2;go_ret2
    exact numP _ _
 ·have hq:((s[0].toNat:Int)==45)=false:=by
   simp only[beq_eq_false_iff_ne];intro e;exact h45 (UInt8.toNat_inj.1 (by show s[0].toNat=45;omega))
  clear h45;by_cases hl:1≤s.size∧s.size≤10
  ·have c1:¬ ((s.size:Int)-0<1):=by omega
   have c2:¬ (10<(s.size:Int)-0):=by omega
   go_enter Tryz.func146,Tryz.ntmps146
   go_wp2;clear c1 c2 hq;go_loop [6,7] (fun nn kk=>∃ (k:Nat) (m:Int),0≤k∧k≤s.size∧kk=.int .i64 k∧nn=.int .i64 m) (fun _ kk=>s.size-(intOf kk).toNat)
   case atStart=>exact⟨0,0,Nat.le_refl _,by omega,rfl,rfl⟩
   case round =>
    obtain⟨k,m,hk1,hk2,rfl,rfl⟩:=hrel;by_cases hlt:k<s.size
    ·by_cases d1:(s[k].toNat:Int)<48
     ·go_wp2;go_ret2
      exact numP _ _
     ·by_cases d2:57<(s[k].toNat:Int)
      ·go_wp2;go_ret2
       exact numP _ _
      ·go_wp2;go_round
       case rel=>exact⟨k+1,_,by omega,by omega,by go_num,rfl⟩
       case measure=>simp[intOf];omega
    ·have hle:0<s.size:=by omega
     by_cases hz:s[0]=48
     ·have hz2:((s[0].toNat:Int)==48)=true:=by rw[hz];rfl
      clear hz;go_wp2;all_goals go_ret2
      all_goals exact numP _ _
     ·have hz2:((s[0].toNat:Int)==48)=false:=by
       simp only[beq_eq_false_iff_ne];intro e;exact hz (UInt8.toNat_inj.1 (by show s[0].toNat=48;omega))
      clear hz;go_wp2;all_goals go_ret2
      all_goals exact numP _ _
  ·go_enter Tryz.func146,Tryz.ntmps146
   by_cases hl2:(s.size:Int)-0<1
   ·omega
   ·have c2:10<(s.size:Int)-0:=by omega
    go_wp2;go_ret2
    exact numP _ _
theorem zpA{s:ByteArray}{k:Nat}(h:k<s.size):valD 0 (s.data.toList.take (k+1))=valD 0 (s.data.toList.take k)*10+(s[k].toNat-48):=by
 have hl:=ze s;rw[List.take_succ_eq_append_getElem (by omega),zcZ];rfl
theorem zpq(l:List UInt8)(k:Nat):valD 0 (l.take k)≤valD 0 l:=by
 have e:=List.take_append_drop k l;have h:valD 0 l=valD (valD 0 (l.take k)) (l.drop k):=by rw[← zcZ,e]
 rw[h];exact zp5 _ _
theorem zoU(g:Int)(h0:1≤g)(h1:g≤1000000):∃ hp:0<(itoaS g).size,(itoaS g).size≤7∧49≤(itoaS g)[0].toNat∧(∀ k (h:k<(itoaS g).size),48≤(itoaS g)[k].toNat∧(itoaS g)[k].toNat≤57)∧valD 0 (itoaS g).data.toList=g.toNat:=by
 have e:(itoaS g).data.toList=Lib.decDigits g.toNat:=itoa_pos g h0;have hl:=ze (itoaS g);obtain⟨c,r,e2,h3,h4⟩:=zmq g.toNat g.toNat (Nat.le_refl _) (by omega);have hp:0<(itoaS g).size:=by rw[← hl,e,e2];simp
 refine⟨hp,?_,?_,fun k h=>?_,?_⟩
 ·rw[← hl,e];exact zm8 7 _ (by omega) (by omega)
 ·show 49≤((itoaS g).data.toList[0]'(by omega)).toNat;have:(itoaS g).data.toList[0]'(by omega)=c:=by
   have e3:=e.trans e2;simp[e3]
  rw[this];exact h3
 ·exact zgh g.toNat g.toNat (Nat.le_refl _) _ (by rw[← e];exact List.getElem_mem (by omega:k<(itoaS g).data.toList.length))
 ·rw[e];exact zlY _ _ (Nat.le_refl _)
theorem znZ(g:Int)(w:World)(h0:1≤g)(h1:g≤1000000) :
 Calls Tryz.prog 146 #[.string (itoaS g)] w fun e w'=>e=.returned (.tuple #[.int .i64 g,.bool true])∧w'=w:=by
 have H:=zoU g h0 h1;generalize itoaS g=s at H ⊢;obtain⟨hp,hl,hf,hd,hv⟩:=H;have hsz:=ze s;have HV:Hid (valD 0 s.data.toList=g.toNat):=hv;have HD:Hid (∀ k (h:k<s.size),48≤s[k].toNat∧s[k].toNat≤57):=hd;have hne:=zgO hp;have hq:((s[0].toNat:Int)==45)=false:=by simp only[beq_eq_false_iff_ne];omega
 have hz2:((s[0].toNat:Int)==48)=false:=by simp only[beq_eq_false_iff_ne];omega
 clear hv hd hf;have c1:¬ ((s.size:Int)-0<1):=by omega
 have c2:¬ (10<(s.size:Int)-0):=by omega
 go_enter Tryz.func146,Tryz.ntmps146
 go_wp2;clear c1 c2 hq;go_loop [6,7] (fun nn kk=>∃ (k m:Nat),k≤s.size∧kk=.int .i64 k∧nn=.int .i64 m∧Hid (m=valD 0 (s.data.toList.take k))) (fun _ kk=>s.size-(intOf kk).toNat)
 case atStart=>exact⟨0,0,Nat.zero_le _,rfl,rfl,rfl⟩
 case round =>
  obtain⟨k,m,hk2,rfl,rfl,HM⟩:=hrel;by_cases hlt:k<s.size
  ·obtain⟨d1,d2⟩:=HD.out k hlt;have hm:m≤1000000:=by
    have:=zpq s.data.toList k;rw[HV.out] at this;rw[HM.out];omega
   have HN:Hid (m*10+(s[k].toNat-48)=valD 0 (s.data.toList.take (k+1))):=by unfold Hid;rw[zpA hlt,← HM.out]
   go_wp2;go_round
   case rel=>exact⟨k+1,_,by omega,by go_num,by go_num,HN⟩
   case measure=>simp[intOf];omega
  ·have HG:Hid ((m:Int)=g):=by
    unfold Hid;rw[HM.out,List.take_of_length_le (by omega),HV.out];omega
   go_wp2;go_ret2
   exact⟨by rw[← HG.out];rfl,rfl⟩
open Go.RowKit
def zaL(s:ByteArray):List UInt8:=s.data.toList
theorem noBl{sl:List UInt8}{f k:Nat}(hk:k≤sl.length)(hfk:f≤k)(hn:∀ j,f≤j→j<k→sl[j]?≠some 32):(32:UInt8) ∉ (sl.drop f).take (k-f):=by
 intro hm;obtain⟨j,hj,e⟩:=List.mem_iff_getElem.1 hm;rw[List.length_take,List.length_drop] at hj;rw[List.getElem_take,List.getElem_drop] at e;exact hn (f+j) (by omega) (by omega) (by rw[List.getElem?_eq_getElem (by omega),e])
theorem zok{sl:List UInt8}{f k:Nat}(hk:k<sl.length)(hfk:f≤k)(hc:sl[k]=32)(hn:∀ j,f≤j→j<k→sl[j]?≠some 32):zau (sl.drop f)=(sl.drop f).take (k-f)::zau (sl.drop (k+1)):=by
 have e:sl.drop f=(sl.drop f).take (k-f)++32::sl.drop (k+1):=by
  have h1:(sl.drop f).drop (k-f)=sl.drop k:=by rw[List.drop_drop];congr 1;omega
  have h2:sl.drop k=32::sl.drop (k+1):=by rw[List.drop_eq_getElem_cons hk,hc]
  rw[← h2,← h1,List.take_append_drop]
 have h:=zeC ((sl.drop f).take (k-f)) (sl.drop (k+1)) (noBl (by omega) hfk hn);rw[← e] at h;exact h
theorem zq2{sl:List UInt8}{f:Nat}(hf:f≤sl.length)(hn:∀ j,f≤j→j<sl.length→sl[j]?≠some 32):zau (sl.drop f)=[(sl.drop f).take (sl.length-f)]:=by
 have e:(sl.drop f).take (sl.length-f)=sl.drop f:=List.take_of_length_le (by rw[List.length_drop];omega);have h:=zhJ ((sl.drop f).take (sl.length-f)) (noBl (Nat.le_refl _) hf hn);rw[← h,e]
def WordI(sl:List UInt8)(k f:Nat)(ys:List ByteArray):Prop :=
 (k≤sl.length∧f≤k∧(∀ j,f≤j→j<k→sl[j]?≠some 32)∧zau sl=ys.map zaL++zau (sl.drop f))∨(k=sl.length+1∧zau sl=ys.map zaL)
theorem zQ(s:ByteArray)(f k:Nat):zaL (s.extract f k)=(s.data.toList.drop f).take (k-f):=by unfold zaL;rw[Lib.extract_eq]
theorem zlV{s:ByteArray}{k f:Nat}{ys:List ByteArray}(h:WordI s.data.toList k f ys)(hk:k<s.size)(hc:s[k]=32):WordI s.data.toList (k+1) (k+1) (ys++[s.extract f k]):=by
 have hl:=ze s;rcases h with ⟨h1,h2,h3,h4⟩ | ⟨h1,_⟩
 ·refine .inl ⟨by omega,Nat.le_refl _,fun j hj hj2=>by omega,?_⟩;rw[h4,zok (by omega) h2 hc h3,List.map_append,List.append_assoc];congr 1
  show _=[zaL (s.extract f k)]++_;rw[zQ];rfl
 ·omega
theorem zqs{s:ByteArray}{f:Nat}{ys:List ByteArray}(h:WordI s.data.toList s.size f ys):WordI s.data.toList (s.size+1) (s.size+1) (ys++[s.extract f s.size]):=by
 have hl:=ze s;rcases h with ⟨h1,h2,h3,h4⟩ | ⟨h1,_⟩
 ·refine .inr ⟨by omega,?_⟩;rw[h4,zq2 (by omega) (by rw[hl];exact h3),List.map_append];congr 1
  show _=[zaL (s.extract f s.size)];rw[zQ,hl]
 ·omega
theorem zl9{s:ByteArray}{k f:Nat}{ys:List ByteArray}(h:WordI s.data.toList k f ys)(hk:k<s.size)(hc:s[k]≠32):WordI s.data.toList (k+1) f ys:=by
 have hl:=ze s;rcases h with ⟨h1,h2,h3,h4⟩ | ⟨h1,_⟩
 ·refine .inl ⟨by omega,by omega,fun j hj hj2=>?_,h4⟩;rcases Nat.lt_or_ge j k with hj3 | hj3
  ·exact h3 j hj hj3
  ·obtain rfl:j=k:=by omega
   rw[List.getElem?_eq_getElem (by omega)];intro e;exact hc (Option.some.inj e)
 ·omega
theorem zl1(w:World)(t:ByteArray):RdS (w.alloc (.cells #[.string t] 9)) (.slice (some ⟨w.heap.size,0,none⟩) 1 1) [t]:=by
 refine⟨_,_,rfl,by simp,by unfold maxLen;omega,.inr ⟨w.heap.size,0,rfl,fun i hi=>?_⟩⟩;have:i=0:=by simpa using hi
 subst this;simp
def WordsP(w:World)(s:ByteArray)(e:Ending)(w':World):Prop:=∃ (v:Value) (ys:List ByteArray),e=.returned v∧ys.map zaL=zau s.data.toList∧RdS w' v ys∧Below w.heap.size w w'
theorem zpg(s:ByteArray)(w:World)(hs:s.size≤1048576) :
 Calls Tryz.prog 145 #[.string s] w fun e w'=>WordsP w s e w':=by
 have hl:=ze s;have o0:=zR w;have b0:=za w (.cells #[] 9);go_enter Tryz.func145,Tryz.ntmps145
 go_wp2;go_loopw [3,4,5] (fun oo ff ii wr=>∃ (k f:Nat) (ys:List ByteArray),ii=.int .i64 k∧ff=.int .i64 f∧k≤s.size+1∧f≤k∧ys.length≤k∧Hid (WordI s.data.toList k f ys)∧OwnS wr w.heap.size oo ys∧Below w.heap.size w wr) (fun _ _ i _=>s.size+1-(intOf i).toNat)
 case atStart=>exact⟨0,0,[],rfl,rfl,by omega,Nat.le_refl _,Nat.le_refl _,.inl ⟨Nat.zero_le _,Nat.le_refl _,fun j h1 h2=>by omega,rfl⟩,o0,b0⟩
 case round =>
  clear o0 b0;obtain⟨k,f,ys,rfl,rfl,hk,hf,hy,HI,ho,hb⟩:=hrel;have hs1:=hb.size;by_cases hle:k≤s.size
  ·have c1:(0:Int)≤(f:Int):=by omega
   have c2:(f:Int)≤(k:Int):=by omega
   have c3:(k:Int)≤(s.size:Int):=by omega
   have ho2:=ho.below (za wr (.cells #[.string (s.extract f k)] 9));have hr2:=zl1 wr (s.extract f k);have hb2:=hb.trans ((za wr (.cells #[.string (s.extract f k)] 9)).mono hs1);by_cases hke:k=s.size
   ·have HE:Hid (WordI s.data.toList (k+1) (k+1) (ys++[s.extract f k])):=by unfold Hid;subst hke;exact zqs HI.out
    have hq:((k:Int)==(s.size:Int))=true:=by simp[hke]
    clear hke HI;go_wp2_with (at_builtin;(refine zO rfl _ _ rfl w.heap.size _ _ ys [s.extract f k] rfl rfl ho2 hr2 ?c1 (by simp;omega) (by simp;omega) ?_))
    case c1=>intro n c e;cases e
    intro v' w3 hown' hgrow;have hb3:=zaV ho (Nat.le_refl _) hb hs1 hgrow;clear ho2 hr2 hb2 ho hb hgrow;go_wp2;go_roundw
    case rel=>exact⟨k+1,k+1,_,by go_num,by go_num,by omega,Nat.le_refl _,by rw[List.length_append];simp;omega,HE,hown',hb3⟩
    case measure=>simp[intOf];omega
   ·have hlt:k<s.size:=by omega
    have hq:((k:Int)==(s.size:Int))=false:=by simp;omega
    by_cases hc:s[k]=32
    ·have HE:Hid (WordI s.data.toList (k+1) (k+1) (ys++[s.extract f k])):=zlV HI.out hlt hc;have hq2:((s[k].toNat:Int)==32)=true:=by rw[hc];rfl
     clear HI hc;go_wp2_with (at_builtin;(refine zO rfl _ _ rfl w.heap.size _ _ ys [s.extract f k] rfl rfl ho2 hr2 ?c1 (by simp;omega) (by simp;omega) ?_))
     case c1=>intro n c e;cases e
     intro v' w3 hown' hgrow;have hb3:=zaV ho (Nat.le_refl _) hb hs1 hgrow;clear ho2 hr2 hb2 ho hb hgrow;go_wp2;go_roundw
     case rel=>exact⟨k+1,k+1,_,by go_num,by go_num,by omega,Nat.le_refl _,by rw[List.length_append];simp;omega,HE,hown',hb3⟩
     case measure=>simp[intOf];omega
    ·have HE:Hid (WordI s.data.toList (k+1) f ys):=zl9 HI.out hlt hc;have hq2:((s[k].toNat:Int)==32)=false:=by
      simp only[beq_eq_false_iff_ne];intro e;exact hc (UInt8.toNat_inj.1 (by show s[k].toNat=32;omega))
     clear HI hc ho2 hr2 hb2;go_wp2;go_roundw
     case rel=>exact⟨k+1,f,ys,by go_num,rfl,by omega,by omega,by omega,HE,ho,hb⟩
     case measure=>simp[intOf];omega
  ·have hke:k=s.size+1:=by omega
   have HF:Hid (ys.map zaL=zau s.data.toList):=by
    rcases HI.out with ⟨h1,_⟩ | ⟨_,h⟩
    ·omega
    ·exact h.symm
   clear HI hke;go_wp2;go_ret;exact⟨_,ys,rfl,HF.out,ho.rd,hb⟩
end Go.Proofs.YtannfbpohhnnkaaGreatDoor
