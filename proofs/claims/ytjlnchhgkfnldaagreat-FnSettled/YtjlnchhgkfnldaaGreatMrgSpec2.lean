import Derived.Test.YtjlnchhgkfnldaaGreatG22
namespace Go.Proofs.YtjlnchhgkfnldaaGreat
set_option maxHeartbeats 16000000
set_option maxRecDepth 100000
open Go.RowKit
theorem znC(w:World)(x:Ent):OwnE (w.alloc (.cells #[.string x.key,.string x.val,.int .i64 x.seq,.bool x.gone] 40)) w.heap.size (.slice (some ⟨w.heap.size,0,none⟩) 1 1) [x]:=World.ownsRow_lit w #[.string x.key,.string x.val,.int .i64 x.seq,.bool x.gone] 1 (nR _) (by unfold maxLen;omega) rfl
theorem told_ok{es:List Ent}{qs:List Int}(h:toldS es qs=true):okL es=true:=by simp only[toldS,Bool.and_eq_true] at h;exact h.1
theorem bot_step{al:List Ent}{g:Nat}(h:g<al.length):zG (al.drop g)=botS (nth al g) (zG (al.drop (g+1))):=by
 rw[List.drop_eq_getElem_cons h,zU h];rfl
theorem zox(es:List Ent):(zG es).length≤es.length:=(zbp es).length_le
theorem zdH(v vq:Value)(es:List Ent)(qs:List Int)(w:World)(hr:RdE w v es)(hq:RdI w vq qs)(hn:es.length≤1000000) :
 Calls Tryz.prog 84 #[v,vq] w fun e w'=>zbq w (zG (zbs es qs)) e w':=by
 have HC:Hid (Calls _ _ _ _ _):=zkj v vq es qs w hr hq hn;have hsl:(zbs es qs).length≤1000000:=by have:=zf0 es qs es.length;unfold zbs;omega
 generalize zbs es qs=al at HC hsl;go_enter Tryz.func84,Tryz.ntmps84
 go_wp2_with fail
 refine HC.out.mono ?_;rintro e w1 ⟨ua,rfl,hoa,hba⟩;obtain⟨nn,hnn⟩:∃ nn,nn=al.length:=⟨_,rfl⟩;have HNN:Hid (nn=al.length):=hnn;obtain⟨aa,ca,hva,hla,hma,_⟩:=id hoa.rd;rw[← hnn] at hva hla hsl;subst hva;unfold maxLen at hma;have ho0:=zX w1;have bn:=ze w1 (.cells #[] 40);have hoa1:=hoa.below bn;have hb1:=hba.trans (bn.mono hba.size);have ho1:=ho0.mono hba.size;have hwn:IntKind.i64.wrap ((nn:Int)-1)=(nn:Int)-1:=by rw[IntKind.wrap_i64];omega
 have HB0:Hid (([]:List Ent)=zG (al.drop nn)):=by rw[hnn,List.drop_eq_nil_of_le (nR _)];rfl
 clear hnn hoa hba ho0 bn HC;go_wp2;go_loopg [6,7] nn (fun gg u i wr=>∃ out:List Ent,gg≤nn∧i=.int .i64 ((gg:Int)-1)∧Hid (out=zG (al.drop gg))∧OwnE wr w.heap.size u out∧OwnE wr w.heap.size (.slice aa nn ca) al∧Below w.heap.size w wr)
 case atStart=>exact⟨[],nR _,rfl,HB0,ho1,hoa1,hb1⟩
 case round =>
  obtain⟨out,hg,rfl,HO,ho,hoa,hb⟩:=hrel;clear ho1 hoa1 hb1 HB0;cases gk with
  | zero =>
   have HE:Hid (out=zG al):=(by have:=HO.out;rw[List.drop_zero] at this;exact this);have h0:((0:Nat):Int)-1 = -1:=(by omega);rw[h0];go_wp2;go_ret;exact⟨_,rfl,by rw[← HE.out];exact ho,hb⟩
  | succ g =>
   have hgi:((g+1:Nat):Int)-1=(g:Int):=(by omega);rw[hgi];obtain⟨b,off,rfl,hc⟩:=hoa.rd.at HNN.out g (by rw[← HNN.out];omega);obtain⟨x,hx⟩:∃ x,x=nth al g:=⟨_,rfl⟩;rw[← hx] at hc;have HST:Hid (zG (al.drop g)=botS x out):=(by unfold Hid;rw[bot_step (by rw[← HNN.out];omega),← hx,HO.out]);have hol:out.length≤1000000:=(by rw[HO.out];have:=zox (al.drop (g+1));rw[List.length_drop,← HNN.out] at this;omega);clear hx HO hgi;obtain⟨on,hon⟩:∃ on,on=out.length:=⟨_,rfl⟩;have HON:Hid (on=out.length):=hon;obtain⟨ao,co,hvo,hlo,hmo,_⟩:=id ho.rd;rw[← hon] at hvo hlo hol;subst hvo;unfold maxLen at hmo;obtain⟨la,hla2⟩:∃ la,la=(decide (on=0) || !kEq (nth out 0).key x.key):=⟨_,rfl⟩;have HLA:Hid (la=(decide (on=0) || !kEq (nth out 0).key x.key)):=hla2;have HBS:Hid (zG (al.drop g)=if (la&&x.gone)=true then out else x::out):=(by unfold Hid;rw[HST.out,HLA.out,hon];rfl);clear hla2 hon HST;have hgn:g<nn:=(by omega);have hgc:g<ca:=(by omega);have hg0:¬ (g:Int)<0:=(by omega);go_upto_region 6 with fail
   go_cut [8] (fun t W=>t=.bool la∧OwnE W w.heap.size (.slice ao on co) out∧OwnE W w.heap.size (.slice (some ⟨b,off,none⟩) nn ca) al∧EntAt W b (off+g*4) x∧Below w.heap.size w W)
   case first =>
    by_cases h0:on=0
    ·skip
     have h0b:((on:Int)==0)=true:=(by simp;omega);have HT:Hid (la=true):=(by unfold Hid;rw[HLA.out,h0];rfl);clear h0;refine brg (S:=fun _=>True) trivial (fun hH=>?_);refine kA 0 20 hH ?_;refine kA 1 21 hH ?_;refine kA 2 22 hH ?_;refine kA 3 23 hH ?_;refine kS 4 24 hH ?_;refine kS 5 25 hH ?_;refine kS 6 26 hH ?_;refine kS 7 27 hH ?_;refine kS 8 28 hH ?_;refine kS 9 29 hH ?_;refine kS 10 30 hH ?_;refine kS 11 31 hH ?_;refine kS 12 32 hH ?_;refine kS 13 33 hH ?_;refine kA 14 34 hH ?_;refine kA 15 8 hH ?_;refine dne ?_;go_wp2;go_meet
     case rel=>exact⟨by rw[HT.out],ho,hoa,hc,hb.drew⟩
    ·skip
     have h0b:((on:Int)==0)=false:=(by simp;omega);have hop:0<on:=(by omega);obtain⟨bo,oo,rfl,hco⟩:=ho.rd.at HON.out 0 (by rw[← HON.out];exact hop);rw[Nat.zero_mul,Nat.add_zero] at hco;obtain⟨y,hy⟩:∃ y,y=nth out 0:=⟨_,rfl⟩;rw[← hy] at hco HLA;have HT:Hid (la=!kEq y.key x.key):=(by unfold Hid;rw[HLA.out];simp[h0]);have hKB:=zbE y.key x.key;generalize kEq y.key x.key=ke at hKB HT;clear h0 hy HLA;refine brg (S:=fun W=>EntAt W b (off+g*4) x∧EntAt W bo oo y) ⟨hc,hco⟩ (fun hH=>?_);refine kA 0 20 hH ?_;refine kA 1 21 hH ?_;refine kA 2 22 hH ?_;refine kA 3 23 hH ?_;refine kA 4 24 hH ?_;refine kA 5 25 hH ?_;refine kA 6 26 hH ?_;refine kA 7 27 hH ?_;refine kA 8 28 hH ?_;refine kA 9 29 hH ?_;refine kA 10 30 hH ?_;refine kA 11 31 hH ?_;refine kA 12 32 hH ?_;refine kA 13 33 hH ?_;refine kA 14 34 hH ?_;refine kA 15 8 hH ?_;refine dne ?_;go_wp2;go_meet
     case rel=>exact⟨by rw[HT.out],ho,hoa,hc,hb.drew⟩
   case rest =>
    obtain⟨h8,ho2,hoa2,hc2,hb2⟩:=hcut;subst h8;clear ho hoa hc hb HLA;obtain⟨c0,c1,c2,c3⟩:=id hc2;by_cases hdrop:(la&&x.gone)=true
    ·have HBS2:Hid (zG (al.drop g)=out):=(by unfold Hid;rw[HBS.out,if_pos hdrop]);simp only[Bool.and_eq_true] at hdrop;obtain⟨rfl,hxg⟩:=hdrop;rw[hxg] at c3;go_wp2;go_roundg g
     case rel=>exact⟨out,by omega,by go_num,HBS2.out.symm,ho2,hoa2,hb2⟩
     case measure=>omega
    ·have HBS2:Hid (zG (al.drop g)=[x]++out):=(by unfold Hid;rw[HBS.out,if_neg hdrop];rfl);have hor:la=false∨(la=true∧x.gone=false):=(by cases la<;>cases hg:x.gone<;>simp_all);have HAP:Hid (∀ W v5 w5,OwnE W w.heap.size (.slice ao on co) out→OwnE W w.heap.size (.slice (some ⟨b,off,none⟩) nn ca) al→Below w.heap.size w W→OwnE w5 W.heap.size v5 ([x]++out)→(W.alloc (.cells #[.string x.key,.string x.val,.int .i64 x.seq,.bool x.gone] 40)).grownBy w5 (some W.heap.size)→OwnE w5 w.heap.size v5 (zG (al.drop g))∧OwnE w5 w.heap.size (.slice (some ⟨b,off,none⟩) nn ca) al∧Below w.heap.size w w5):=fun W v5 w5 h1 h2 h3 h4 h5=>by
      have bb:Below W.heap.size W w5:=(ze W (.cells #[.string x.key,.string x.val,.int .i64 x.seq,.bool x.gone] 40)).grown h5 (by simp) (fun j hj=>by cases hj;exact nR _);exact⟨by rw[HBS2.out];exact h4.mono h3.size,h2.below bb,h3.trans (bb.mono h3.size)⟩
     clear hdrop HBS;rcases hor with rfl | ⟨rfl,hxg⟩
     ·go_wp2_with (at_builtin;(refine zp rfl _ _ rfl wc.heap.size _ _ [x] out rfl rfl (znC _ _) (ho2.rd.below (ze _ _)) (by rw[← HON.out];simp;omega) (by simp) ?_))
      intro v5 w5 ho5 hg5;obtain⟨r1,r2,r3⟩:=HAP.out wc v5 w5 ho2 hoa2 hb2 ho5 hg5;clear ho2 hoa2 hc2 hb2 c0 c1 c2 c3 ho5 hg5;go_wp2;go_roundg g
      case rel=>exact⟨_,by omega,by go_num,rfl,r1,r2,r3⟩
      case measure=>omega
     ·have c3b:=c3;rw[hxg] at c3b;rw[hxg] at HAP;have ho1x:=znC wc x;rw[hxg] at ho1x;clear c3;go_wp2_with (at_builtin;(refine zp rfl _ _ rfl wc.heap.size _ _ [x] out rfl rfl ho1x (ho2.rd.below (ze _ _)) (by rw[← HON.out];simp;omega) (by simp) ?_))
      intro v5 w5 ho5 hg5;obtain⟨r1,r2,r3⟩:=HAP.out wc v5 w5 ho2 hoa2 hb2 ho5 hg5;clear ho2 hoa2 hc2 hb2 c0 c1 c2 c3b ho5 hg5;go_wp2;go_roundg g
      case rel=>exact⟨_,by omega,by go_num,rfl,r1,r2,r3⟩
      case measure=>omega
end Go.Proofs.YtjlnchhgkfnldaaGreat
