import Derived.Test.YtjlnchhgkfnldaaGreatG25
namespace Go.Proofs.YtjlnchhgkfnldaaGreat
set_option maxHeartbeats 16000000
set_option maxRecDepth 100000
open Go.RowKit
def zbB(seq:Int)(ss:List Int)(i:Nat):Bool:=decide (0≤ss.getD i 0)&&decide (ss.getD i 0≤seq)&&(decide (i=0)||decide (ss.getD (i-1) 0<ss.getD i 0))
theorem zfQ{seq:Int}{ss:List Int}{i:Nat}(hi:i<ss.length)(h:zbB seq ss i=false):zar seq ss=false:=by
 unfold zar;rw[List.all_eq_false];exact⟨i,List.mem_range.2 hi,by show ¬ zbB seq ss i=true;rw[h];simp⟩
theorem zjc{seq:Int}{ss:List Int}(h:∀ i,i<ss.length→zbB seq ss i=true):zar seq ss=true:=by
 unfold zar;rw[List.all_eq_true];intro i hi;exact h i (List.mem_range.1 hi)
theorem zkS{ss:List Int}{i:Nat}(h:i<ss.length):ss.getD i 0=ss[i]:=by simp[List.getD,List.getElem?_eq_getElem h]
theorem top_no{all:List Ent}{seq:Int}{i:Nat}(hi:i<all.length)(h:¬ (nth all i).seq≤seq):all.all (fun e=>decide (e.seq≤seq))=false:=by
 rw[List.all_eq_false];exact⟨nth all i,by rw[zU hi];exact List.getElem_mem hi,by simp;omega⟩
theorem znD{all:List Ent}{seq:Int}(h:∀ i,i<all.length→(nth all i).seq≤seq):all.all (fun e=>decide (e.seq≤seq))=true:=by
 rw[List.all_eq_true];intro e he;obtain⟨i,hi,rfl⟩:=List.mem_iff_getElem.1 he;have:=h i hi;rw[zU hi] at this;simpa using this
def tokR(mem all:List Ent)(is:Bool)(seq:Int)(snaps:List Int):Bool:=is&&decide (0≤seq)&&decide (seq≤1000000)&&decide (snaps.length≤10)&&zar seq snaps&&all.all (fun e=>decide (e.seq≤seq))&&zcD mem all
theorem tok_eq(T:Tre):zI T=tokR T.mem (allT T).1 (allT T).2 T.seq T.snaps:=rfl
theorem tok_0{mem all:List Ent}{is:Bool}{seq:Int}{snaps:List Int}(h:is=false∨(decide (0≤seq)&&decide (seq≤1000000))=false∨¬ snaps.length≤10):tokR mem all is seq snaps=false:=by
 unfold tokR;rcases h with h | h | h
 ·rw[h];rfl
 ·rw[Bool.and_assoc is,h,Bool.and_false];rfl
 ·rw[decide_eq_false h];simp
theorem tok_1{mem all:List Ent}{is:Bool}{seq:Int}{snaps:List Int}(h:zar seq snaps=false):tokR mem all is seq snaps=false:=by unfold tokR;rw[h];simp
theorem tok_2{mem all:List Ent}{is:Bool}{seq:Int}{snaps:List Int}(h:all.all (fun e=>decide (e.seq≤seq))=false):tokR mem all is seq snaps=false:=by unfold tokR;rw[h];simp
theorem tok_3{mem all:List Ent}{is:Bool}{seq:Int}{snaps:List Int}(h1:is=true)(h2:(decide (0≤seq)&&decide (seq≤1000000))=true)(h3:snaps.length≤10)(h4:zar seq snaps=true)(h5:all.all (fun e=>decide (e.seq≤seq))=true):tokR mem all is seq snaps=zcD mem all:=by
 unfold tokR;rw[Bool.and_assoc is,h1,h2,decide_eq_true h3,h4,h5];simp
theorem zaI(X:TrX)(w:World)(hx:RdTr w X)(hf:FitTr X) :
 Calls Tryz.prog 17 #[.agg #[X.vm,X.vy,X.vo,.int .i64 X.seq,X.vs]] w fun e w'=>e=.returned (.bool (zI X.tre))∧Below w.heap.size w w':=by
 have HALL:Hid (∀ W,RdTr W X→Calls Tryz.prog 47 #[.agg #[X.vm,X.vy,X.vo,.int .i64 X.seq,X.vs]] W fun e w'=>zcq W X e w'):=fun W h=>zgy X W h hf
 have HNW:Hid (∀ va all W,RdTr W X→RdE W va all→Calls Tryz.prog 51 #[.agg #[X.vm,X.vy,X.vo,.int .i64 X.seq,X.vs],va] W fun e w'=>e=.returned (.bool (zcD X.mem all))∧Below W.heap.size W w'):=fun va all W h1 h2=>zk4 X va all W h1 h2
 rw[tok_eq];have hmt:X.tre.mem=X.mem:=rfl;have hst:X.tre.seq=X.seq:=rfl;have hpt:X.tre.snaps=X.snaps:=rfl;rw[hmt,hst,hpt];clear hmt hst hpt;unfold zcq at HALL;generalize allT X.tre=AT at HALL ⊢;obtain⟨all,is⟩:=AT;simp only at HALL ⊢;obtain⟨asn,cs,hvs,hls,hms,-⟩:=id hx.snaps;obtain⟨sn,hsn⟩:∃ sn,sn=X.snaps.length:=⟨_,rfl⟩;rw[← hsn] at hvs hls;have HSN:Hid (sn=X.snaps.length):=hsn;have HVS:Hid (X.vs=.slice asn sn cs):=hvs;unfold maxLen at hms;clear hsn hvs;have ht0:=zam w X 28;have b0:=ze w (.cells #[X.vm,X.vy,X.vo,.int .i64 X.seq,X.vs] 28);obtain⟨q0,q1,q2,q3,q4⟩:=id ht0;go_enter Tryz.func17,Tryz.ntmps17
 go_wp2_with fail
 refine(HALL.out _ (hx.below b0)).mono ?_;rintro e w1 ⟨u,rfl,ho1,hb1⟩;have ht1:=ht0.below hb1;have b1:=b0.trans (hb1.mono b0.size);obtain⟨aa,ca,hva,hla,hma,-⟩:=id ho1.rd;obtain⟨an,han⟩:∃ an,an=all.length:=⟨_,rfl⟩;rw[← han] at hva hla;have HAN:Hid (an=all.length):=han;subst hva;unfold maxLen at hma;have hra:RdE w1 (.slice aa an ca) all:=ho1.rd;clear han HALL ht0 b0 hb1 ho1 q0 q1 q2 q3 q4;obtain⟨q0,q1,q2,q3,q4⟩:=id ht1;rw[HVS.out] at q4;cases is with
 | false =>
  have RES:Hid (tokR X.mem all false X.seq X.snaps=false):=tok_0 (.inl rfl);go_wp2;go_ret;exact⟨zN RES.out.symm,b1⟩
 | true =>
  obtain⟨rg,hrg⟩:∃ rg,rg=(decide (0≤X.seq)&&decide (X.seq≤1000000)):=⟨_,rfl⟩;have HIN:=ziB X.seq 0 1000000 w1;rw[← hrg] at HIN;have HIN1:Hid (Calls _ _ _ _ _):=HIN;have HRG:Hid (rg=(decide (0≤X.seq)&&decide (X.seq≤1000000))):=hrg;clear HIN hrg;go_wp2_with fail
  refine HIN1.out.mono ?_;rintro e w2 ⟨rfl,rfl⟩;clear HIN1;cases rg with
  | false =>
   have RES:Hid (tokR X.mem all true X.seq X.snaps=false):=tok_0 (.inr (.inl HRG.out.symm));go_wp2;go_ret;exact⟨zN RES.out.symm,b1⟩
  | true =>
   by_cases hs10:10<sn
   ·skip
    have RES:Hid (tokR X.mem all true X.seq X.snaps=false):=tok_0 (.inr (.inr (by rw[← HSN.out];omega)));have hsi:(10:Int)<(sn:Int):=(by omega);go_wp2;go_ret;exact⟨zN RES.out.symm,b1⟩
   ·have hsi:¬ (10:Int)<(sn:Int):=(by omega);go_wp2;go_loopw [5] (fun i wr=>∃ k:Nat,k≤sn∧i=.int .i64 k∧Hid (∀ j,j<k→zbB X.seq X.snaps j=true)∧TreAt wr w.heap.size X∧RdE wr (.slice aa an ca) all∧Below w.heap.size w wr) (fun i _=>sn-(intOf i).toNat)
    case atStart=>exact⟨0,Nat.zero_le _,rfl,(fun j h=>by omega),ht1,hra,b1⟩
    case round =>
     obtain⟨k,hk,rfl,HH,htA,hrA,hb⟩:=hrel;clear q0 q1 q2 q3 q4 ht1 hra b1;obtain⟨q0,q1,q2,q3,q4⟩:=id htA;rw[HVS.out] at q4;by_cases hlt:k<sn
     ·have hkl:k<X.snaps.length:=(by rw[← HSN.out];exact hlt);have hrs:=hx.snaps.below hb;rw[HVS.out] at hrs;obtain⟨b,off,rfl,hc⟩:=hrs.at k hkl;obtain⟨x,hxx⟩:∃ x,x=X.snaps[k]:=⟨_,rfl⟩;rw[← hxx] at hc;have hgx:X.snaps.getD k 0=x:=(by rw[hxx];exact zkS hkl);have hkc:k<cs:=(by omega);obtain⟨rg,hrg⟩:∃ rg,rg=(decide (0≤x)&&decide (x≤X.seq)):=⟨_,rfl⟩;have HIN:=fun W=>ziB x 0 X.seq W
      rw[← hrg] at HIN;have HIN1:Hid (∀ W,Calls Tryz.prog 50 #[.int .i64 x,.int .i64 0,.int .i64 X.seq] W fun e w'=>e=.returned (.bool rg)∧w'=W):=HIN;clear HIN;cases rg with
      | false =>
       have RES:Hid (tokR X.mem all true X.seq X.snaps=false):=tok_1 (zfQ hkl (by unfold zbB;rw[hgx,← hrg];rfl));clear hrg hxx hgx hrs;go_wp2_with fail
       refine brg (S:=fun W=>W.cell? ⟨w.heap.size,3,none⟩=some (.int .i64 X.seq)∧W.cell? ⟨w.heap.size,4,none⟩=some (.slice (some ⟨b,off,none⟩) sn cs)∧W.cell? ⟨b,off+k,none⟩=some (.int .i64 x)) ⟨q3,q4,hc⟩ (fun hH=>?_);refine kA 0 33 hH ?_;refine kA 1 34 hH ?_;refine kA 2 35 hH ?_;refine kA 3 36 hH ?_;refine kA 4 37 hH ?_;refine kA 5 38 hH ?_;refine kA 6 39 hH ?_;refine rdy 7 (fun K hK=>?_);go_simp;refine(HIN1.out _).mono ?_;rintro e w3 ⟨rfl,rfl⟩;refine hK.out _ _ hH (fun hB=>?_);clear hK K;try simp only[Act.put,sA,sZ,sS]
       refine kA 8 41 hB ?_;refine kA 9 42 hB ?_;refine kS 10 43 hB ?_;refine kS 11 44 hB ?_;refine kS 12 45 hB ?_;refine kS 13 46 hB ?_;refine kS 14 47 hB ?_;refine kS 15 48 hB ?_;refine kS 16 49 hB ?_;refine kS 17 50 hB ?_;refine kS 18 51 hB ?_;refine kS 19 52 hB ?_;refine kS 20 53 hB ?_;refine kS 21 54 hB ?_;refine kS 22 55 hB ?_;refine kS 23 56 hB ?_;refine kS 24 57 hB ?_;refine kS 25 58 hB ?_;refine kA 26 59 hB ?_;refine dne ?_;go_wp2;go_ret;exact⟨zN RES.out.symm,hb.drew⟩
      | true =>
       by_cases hk0:k=0
       ·skip
        have HH2:Hid (∀ j,j<k+1→zbB X.seq X.snaps j=true):=fun j hj=>by
         by_cases e:j=k
         ·rw[e];unfold zbB;rw[hgx,← hrg,hk0];rfl
         ·exact HH.out j (by omega)
        have hkp:¬ 0<k:=(by omega);clear hrg hxx hgx hrs hk0;go_wp2_with fail
        refine brg (S:=fun W=>W.cell? ⟨w.heap.size,3,none⟩=some (.int .i64 X.seq)∧W.cell? ⟨w.heap.size,4,none⟩=some (.slice (some ⟨b,off,none⟩) sn cs)∧W.cell? ⟨b,off+k,none⟩=some (.int .i64 x)) ⟨q3,q4,hc⟩ (fun hH=>?_);refine kA 0 33 hH ?_;refine kA 1 34 hH ?_;refine kA 2 35 hH ?_;refine kA 3 36 hH ?_;refine kA 4 37 hH ?_;refine kA 5 38 hH ?_;refine kA 6 39 hH ?_;refine rdy 7 (fun K hK=>?_);go_simp;refine(HIN1.out _).mono ?_;rintro e w3 ⟨rfl,rfl⟩;refine hK.out _ _ hH (fun hB=>?_);clear hK K;try simp only[Act.put,sA,sZ,sS]
        refine kA 8 41 hB ?_;refine kA 9 42 hB ?_;refine kA 10 43 hB ?_;refine kA 11 44 hB ?_;refine kA 12 45 hB ?_;refine kS 13 46 hB ?_;refine kS 14 47 hB ?_;refine kS 15 48 hB ?_;refine kS 16 49 hB ?_;refine kS 17 50 hB ?_;refine kS 18 51 hB ?_;refine kS 19 52 hB ?_;refine kS 20 53 hB ?_;refine kS 21 54 hB ?_;refine kS 22 55 hB ?_;refine kS 23 56 hB ?_;refine kS 24 57 hB ?_;refine kA 25 58 hB ?_;refine kA 26 59 hB ?_;refine dne ?_;go_wp2;go_roundw
        case rel=>exact⟨k+1,by omega,by go_num,HH2,htA,hrA,hb.drew⟩
        case measure=>simp[intOf];omega
       ·obtain⟨m,hm⟩:∃ m,m=k-1:=⟨_,rfl⟩;have hml:m<X.snaps.length:=(by omega);obtain⟨b',off',hbo,hc1⟩:=hrs.at m hml;cases hbo
        obtain⟨y,hyy⟩:∃ y,y=X.snaps[m]:=⟨_,rfl⟩;rw[← hyy] at hc1;have hgy:X.snaps.getD (k-1) 0=y:=(by rw[hyy,← hm];exact zkS hml);have hkm:(k:Int)-1=(m:Int):=(by omega);have hwm:IntKind.i64.wrap (m:Int)=(m:Int):=(by rw[IntKind.wrap_i64];omega);have hmc:m<cs:=(by omega);have hmn:m<sn:=(by omega);have hkp:0<k:=(by omega);obtain⟨le,hle⟩:∃ le,le=decide (x≤y):=⟨_,rfl⟩;cases le with
        | true =>
         have RES:Hid (tokR X.mem all true X.seq X.snaps=false):=tok_1 (zfQ hkl (by
          unfold zbB;rw[hgx,hgy,← hrg,decide_eq_false (show ¬ k=0 by omega),decide_eq_false (show ¬ y<x by have:=of_decide_eq_true hle.symm;omega)];rfl))
         have hxy:x≤y:=of_decide_eq_true hle.symm;clear hrg hxx hgx hgy hyy hrs hle hm hk0;go_wp2_with fail
         refine brg (S:=fun W=>W.cell? ⟨w.heap.size,3,none⟩=some (.int .i64 X.seq)∧W.cell? ⟨w.heap.size,4,none⟩=some (.slice (some ⟨b,off,none⟩) sn cs)∧W.cell? ⟨b,off+k,none⟩=some (.int .i64 x)∧W.cell? ⟨b,off+m,none⟩=some (.int .i64 y)) ⟨q3,q4,hc,hc1⟩ (fun hH=>?_);refine kA 0 33 hH ?_;refine kA 1 34 hH ?_;refine kA 2 35 hH ?_;refine kA 3 36 hH ?_;refine kA 4 37 hH ?_;refine kA 5 38 hH ?_;refine kA 6 39 hH ?_;refine rdy 7 (fun K hK=>?_);go_simp;refine(HIN1.out _).mono ?_;rintro e w3 ⟨rfl,rfl⟩;refine hK.out _ _ hH (fun hB=>?_);clear hK K;try simp only[Act.put,sA,sZ,sS]
         refine kA 8 41 hB ?_;refine kA 9 42 hB ?_;refine kA 10 43 hB ?_;refine kA 11 44 hB ?_;refine kA 12 45 hB ?_;refine kA 13 46 hB ?_;refine kA 14 47 hB ?_;refine kA 15 48 hB ?_;refine kA 16 49 hB ?_;refine kA 17 50 hB ?_;refine kA 18 51 hB ?_;refine kA 19 52 hB ?_;refine kA 20 53 hB ?_;refine kA 21 54 hB ?_;refine kA 22 55 hB ?_;refine kA 23 56 hB ?_;refine kA 24 57 hB ?_;refine kA 25 58 hB ?_;refine kA 26 59 hB ?_;refine dne ?_;go_wp2;go_ret;exact⟨zN RES.out.symm,hb.drew⟩
        | false =>
         have hxy:¬ x≤y:=of_decide_eq_false hle.symm;have HH2:Hid (∀ j,j<k+1→zbB X.seq X.snaps j=true):=fun j hj=>by
          by_cases e:j=k
          ·rw[e];unfold zbB;rw[hgx,hgy,← hrg,decide_eq_true (show y<x by omega)];simp
          ·exact HH.out j (by omega)
         clear hrg hxx hgx hgy hyy hrs hle hm hk0;go_wp2_with fail
         refine brg (S:=fun W=>W.cell? ⟨w.heap.size,3,none⟩=some (.int .i64 X.seq)∧W.cell? ⟨w.heap.size,4,none⟩=some (.slice (some ⟨b,off,none⟩) sn cs)∧W.cell? ⟨b,off+k,none⟩=some (.int .i64 x)∧W.cell? ⟨b,off+m,none⟩=some (.int .i64 y)) ⟨q3,q4,hc,hc1⟩ (fun hH=>?_);refine kA 0 33 hH ?_;refine kA 1 34 hH ?_;refine kA 2 35 hH ?_;refine kA 3 36 hH ?_;refine kA 4 37 hH ?_;refine kA 5 38 hH ?_;refine kA 6 39 hH ?_;refine rdy 7 (fun K hK=>?_);go_simp;refine(HIN1.out _).mono ?_;rintro e w3 ⟨rfl,rfl⟩;refine hK.out _ _ hH (fun hB=>?_);clear hK K;try simp only[Act.put,sA,sZ,sS]
         refine kA 8 41 hB ?_;refine kA 9 42 hB ?_;refine kA 10 43 hB ?_;refine kA 11 44 hB ?_;refine kA 12 45 hB ?_;refine kA 13 46 hB ?_;refine kA 14 47 hB ?_;refine kA 15 48 hB ?_;refine kA 16 49 hB ?_;refine kA 17 50 hB ?_;refine kA 18 51 hB ?_;refine kA 19 52 hB ?_;refine kA 20 53 hB ?_;refine kA 21 54 hB ?_;refine kA 22 55 hB ?_;refine kA 23 56 hB ?_;refine kA 24 57 hB ?_;refine kA 25 58 hB ?_;refine kA 26 59 hB ?_;refine dne ?_;go_wp2;go_roundw
         case rel=>exact⟨k+1,by omega,by go_num,HH2,htA,hrA,hb.drew⟩
         case measure=>simp[intOf];omega
     ·skip
      have HSO:Hid (zar X.seq X.snaps=true):=zjc (fun i hi=>HH.out i (by have:=HSN.out;omega));have hltI:¬ (k:Int)<(sn:Int):=(by omega);go_wp2;go_loopw [6] (fun i wr'=>∃ k:Nat,k≤an∧i=.int .i64 k∧Hid (∀ j,j<k→(nth all j).seq≤X.seq)∧TreAt wr' w.heap.size X∧RdE wr' (.slice aa an ca) all∧Below w.heap.size w wr') (fun i _=>an-(intOf i).toNat)
      case atStart=>exact⟨0,Nat.zero_le _,rfl,(fun j h=>by omega),htA,hrA,hb⟩
      case round =>
       clear HH hlt hltI hk;obtain⟨j,hj,rfl,HH,htB,hrB,hb2⟩:=hrel;clear q0 q1 q2 q3 q4 htA hrA hb;obtain⟨q0,q1,q2,q3,q4⟩:=id htB;by_cases hlt:j<an
       ·have hjl:j<all.length:=(by rw[← HAN.out];exact hlt);obtain⟨b,off,rfl,hc⟩:=hrB.at HAN.out j hjl;have hjc:j<ca:=(by omega);obtain⟨y,hy⟩:∃ y,y=nth all j:=⟨_,rfl⟩;rw[← hy] at hc;obtain⟨-,-,c2,-⟩:=id hc;by_cases hle:y.seq≤X.seq
        ·skip
         have HH2:Hid (∀ i,i<j+1→(nth all i).seq≤X.seq):=fun i hi=>by
          by_cases e:i=j
          ·rw[e,← hy];exact hle
          ·exact HH.out i (by omega)
         have hgt:¬ X.seq<y.seq:=(by omega);clear hy;go_wp2_with fail
         refine brg (S:=fun W=>W.cell? ⟨w.heap.size,3,none⟩=some (.int .i64 X.seq)∧EntAt W b (off+j*4) y) ⟨q3,hc⟩ (fun hH=>?_);refine kA 0 66 hH ?_;refine kA 1 67 hH ?_;refine kA 2 68 hH ?_;refine kA 3 69 hH ?_;refine kA 4 70 hH ?_;refine kA 5 71 hH ?_;refine kA 6 72 hH ?_;refine kA 7 73 hH ?_;refine dne ?_;go_wp2;go_roundw
         case rel=>exact⟨j+1,by omega,by go_num,HH2,htB,hrB,hb2.drew⟩
         case measure=>simp[intOf];omega
        ·skip
         have RES:Hid (tokR X.mem all true X.seq X.snaps=false):=tok_2 (top_no hjl (by rw[← hy];exact hle));have hgt:X.seq<y.seq:=(by omega);clear hy;go_wp2_with fail
         refine brg (S:=fun W=>W.cell? ⟨w.heap.size,3,none⟩=some (.int .i64 X.seq)∧EntAt W b (off+j*4) y) ⟨q3,hc⟩ (fun hH=>?_);refine kA 0 66 hH ?_;refine kA 1 67 hH ?_;refine kA 2 68 hH ?_;refine kA 3 69 hH ?_;refine kA 4 70 hH ?_;refine kA 5 71 hH ?_;refine kA 6 72 hH ?_;refine kA 7 73 hH ?_;refine dne ?_;go_wp2;go_ret;exact⟨zN RES.out.symm,hb2.drew⟩
       ·skip
        have RES:Hid (tokR X.mem all true X.seq X.snaps=zcD X.mem all):=tok_3 rfl HRG.out.symm (by rw[← HSN.out];omega) HSO.out (znD (fun i hi=>HH.out i (by have:=HAN.out;omega)));have hltJ:¬ (j:Int)<(an:Int):=(by omega);go_wp2_with fail
        refine(HNW.out _ all _ (hx.below hb2) hrB).mono ?_;rintro e w3 ⟨rfl,hb3⟩;go_wp2;go_ret;exact⟨zN RES.out.symm,hb2.trans (hb3.mono hb2.size)⟩
open Go.RowKit
def zcm(T:Tre):Bool:=decide (T.mem.length≠0)&&decide (T.young.length≠6)
def zbA(T:Tre):Tre:=if zI T=true then (if zcm T=true then zfA T else T) else zjD
def zbr(T:Tre):Bool:=zI T&&zcm T
def zdS(w:World)(X:TrX)(e:Ending)(w':World):Prop :=
 ∃ Y:TrX,e=.returned (.tuple #[.agg #[Y.vm,Y.vy,Y.vo,.int .i64 Y.seq,Y.vs],.bool (zbr X.tre)])∧Y.tre=zbA X.tre∧RowsTr w' w.heap.size Y∧Below w.heap.size w w'
theorem zib(X:TrX)(w:World)(hx:RdTr w X)(hf:FitTr X)(hs:zI X.tre=true→SizTr X) :
 Calls Tryz.prog 9 #[.agg #[X.vm,X.vy,X.vo,.int .i64 X.seq,X.vs]] w fun e w'=>zdS w X e w':=by
 have HTK:Hid (∀ W,RdTr W X→Calls Tryz.prog 17 #[.agg #[X.vm,X.vy,X.vo,.int .i64 X.seq,X.vs]] W fun e w'=>e=.returned (.bool (zI X.tre))∧Below W.heap.size W w'):=fun W h=>zaI X W h hf
 have HCP:Hid (zI X.tre=true→∀ W,RdTr W X→Calls Tryz.prog 37 #[.agg #[X.vm,X.vy,X.vo,.int .i64 X.seq,X.vs]] W fun e w'=>zbO W X e w'):=fun ht W h=>zdV X W h (hs ht)
 have HFI:Hid (FitTr X):=hf;clear hs hf;have t0:=zam w X 28;obtain⟨V0,hV0⟩:∃ V0,V0=w.alloc (.cells #[X.vm,X.vy,X.vo,.int .i64 X.seq,X.vs] 28):=⟨_,rfl⟩;have b0:Below w.heap.size w V0:=by rw[hV0];exact ze w _
 have s0:V0.heap.size=w.heap.size+1:=by rw[hV0];simp
 rw[← hV0] at t0;have z1:=zag V0 (.slice none 0 0) (.slice none 0 0) (.slice none 0 0) (.slice none 0 0) 0;obtain⟨W0,hW0⟩:∃ W0,W0=V0.alloc (.cells #[.slice none 0 0,.slice none 0 0,.slice none 0 0,.int .i64 0,.slice none 0 0] 28):=⟨_,rfl⟩;have b1:Below V0.heap.size V0 W0:=by rw[hW0];exact ze V0 _
 have s1:W0.heap.size=w.heap.size+2:=by rw[hW0];simp;omega
 rw[← hW0,s0] at z1;have t1:=t0.below b1;have bw:Below w.heap.size w W0:=b0.trans (b1.mono (by omega));have HW0:Hid ((w.alloc (.cells #[X.vm,X.vy,X.vo,.int .i64 X.seq,X.vs] 28)).alloc (.cells #[.slice none 0 0,.slice none 0 0,.slice none 0 0,.int .i64 0,.slice none 0 0] 28)=W0):=by unfold Hid;rw[hW0,hV0]
 obtain⟨q0,q1,q2,q3,q4⟩:=id t1;rw[hW0,hV0] at q0 q1 q2 q3 q4;clear t0 b0 b1 s0 hV0 hW0;go_enter Tryz.func9,Tryz.ntmps9
 go_wp2_with fail
 rw[HW0.out];clear q0 q1 q2 q3 q4;refine(HTK.out _ (hx.below bw)).mono ?_;rintro e w1 ⟨rfl,hb1⟩;have t2:=t1.below hb1;have z2:=z1.on hb1;have bw1:=bw.trans (hb1.mono bw.size);have s2:w.heap.size+2≤w1.heap.size:=by rw[← s1];exact hb1.size
 clear t1 z1 bw hb1 s1 HTK HW0;cases htk:zI X.tre with
 | false =>
  obtain⟨y0,y1,y2,y3,y4,g0,g1,g2,g3,g4⟩:=z2.facts;have hzF:=zF z2 (.slice none 0 0) (.slice none 0 0) (.slice none 0 0) (.slice none 0 0) 0;obtain⟨f0,f1,f2,f3,f4,-⟩:=hzF.facts;have END:Hid (zdS w X (.returned (.tuple #[.agg #[.slice none 0 0,.slice none 0 0,.slice none 0 0,.int .i64 0,.slice none 0 0],.bool false])) (put5 w1 (w.heap.size+1) (.slice none 0 0) (.slice none 0 0) (.slice none 0 0) (.int .i64 0) (.slice none 0 0))):=by
   have h0:=zaW (put5 w1 (w.heap.size+1) (.slice none 0 0) (.slice none 0 0) (.slice none 0 0) (.int .i64 0) (.slice none 0 0)) w.heap.size;refine⟨⟨.slice none 0 0,.slice none 0 0,.slice none 0 0,.slice none 0 0,[],[],[],0,[]⟩,by unfold zbr;rw[htk];rfl,by unfold zbA;rw[if_neg (by rw[htk];simp)];rfl,⟨h0.mem,h0.young,h0.youngs,h0.old,h0.olds,h0.snaps⟩,zR bw1 (by omega)⟩
  unfold put5 at f0 f1 f2 f3 f4;clear z2 t2 hzF bw1 htk;go_wp2;exact bodyPost_ret (v:=.tuple #[.agg #[.slice none 0 0,.slice none 0 0,.slice none 0 0,.int .i64 0,.slice none 0 0],.bool false]) (by simp[results,Tryz.results9,go_sem,f0,f1,f2,f3,f4]) rfl END.out
 | true =>
  obtain⟨q0,q1,q2,q3,q4⟩:=id t2;go_wp2_with fail
  refine(HCP.out htk _ (hx.below bw1)).mono ?_;rintro e w2 ⟨Y,rfl,heY,hoY,hb2⟩;have t3:=t2.below hb2;have z3:=z2.on hb2;have bw2:=bw1.trans (hb2.mono bw1.size);have s3:=hb2.size;have HRW:Hid (RowsTr w2 w1.heap.size Y):=⟨hoY.mem,hoY.young,hoY.youngs,hoY.old,hoY.olds,hoY.snaps⟩;clear q0 q1 q2 q3 q4 t2 z2 hb2 bw1 HCP;obtain⟨am,ay,ao,an,mn,yn,on,nn,cm,cy,co,cn,v0,v1,v2,v3⟩:=HRW.out.rd.slices;obtain⟨vm4,vy4,vo4,vs4,mem4,ys4,os4,seq4,snaps4⟩:=Y;simp only at v0 v1 v2 v3;subst v0;subst v1;subst v2;subst v3;clear hoY;have HMY:Hid (mem4=X.tre.mem):=congrArg Tre.mem heY;have HQY:Hid (seq4=X.tre.seq):=congrArg Tre.seq heY;have HEY:Hid (_=_):=heY;clear heY;have zb:=zag w2 (.slice am mn cm) (.slice ay yn cy) (.slice ao on co) (.slice an nn cn) seq4;have bb:=ze w2 (.cells #[.slice am mn cm,.slice ay yn cy,.slice ao on co,.int .i64 seq4,.slice an nn cn] 28);have z4:=z3.on bb;have bw3:=bw2.trans (bb.mono bw2.size);have hr3:=HRW.out.below bb;have UB:Hid (∀ k∈trB (⟨.slice am mn cm,.slice ay yn cy,.slice ao on co,.slice an nn cn,mem4,ys4,os4,seq4,snaps4⟩:TrX),w1.heap.size≤k∧k<w2.heap.size):=fun k hk=>HRW.out.bound hk
  have s4:w2.heap.size<(w2.alloc (.cells #[.slice am mn cm,.slice ay yn cy,.slice ao on co,.int .i64 seq4,.slice an nn cn] 28)).heap.size:=by simp
  have hTP:=(zQ X.tre).1 htk;clear HRW bb bw2;go_wp2_with fail
  generalize w2.alloc (.cells #[.slice am mn cm,.slice ay yn cy,.slice ao on co,.int .i64 seq4,.slice an nn cn] 28)=W3 at zb z4 bw3 hr3 s4 ⊢;have H1:∀ k∈[w2.heap.size],k=w2.heap.size:=fun k hk=>by simpa using hk
  have EY:ys4.map (·.T)=X.tre.young:=congrArg Tre.young HEY.out;have EO:os4.map (·.T)=X.tre.old:=congrArg Tre.old HEY.out;have ES:snaps4=X.tre.snaps:=congrArg Tre.snaps HEY.out;have LY:ys4.length=X.tre.young.length:=by rw[← EY,List.length_map]
  have hcall:=zgJ w2.heap.size (.slice am mn cm) (.slice ay yn cy) (.slice ao on co) (.slice an nn cn) mem4 ys4 seq4 W3 zb hr3.mem.rd (hr3.young.rd hr3.youngs) (zaB hr3.young) (fun e he=>zjo (((zaD _).1 hTP.mem).2.1 e (HMY.out ▸ he))) (by have:=zad hTP.mem;rw[HMY.out];omega) (by rw[LY];exact hTP.young);have HCA:Hid (Calls _ _ _ _ _):=hcall;clear hcall HFI;refine HCA.out.mono ?_;rintro e w5 ⟨ok,rfl,hok,hno,hyes⟩;rw[LY,HMY.out] at hok;have HOK:Hid (ok=zcm X.tre):=hok;clear hok HCA;cases ok with
  | false =>
   have hb5:=hno rfl;have zb5:=zb.on hb5;have z5:=z4.on hb5;have bw5:=bw3.trans (hb5.mono bw3.size);have hr5:=hr3.below hb5;have HFIN:Hid (false=zbr X.tre∧(⟨mem4,ys4.map (·.T),os4.map (·.T),seq4,snaps4⟩:Tre)=zbA X.tre):=by
    unfold Hid zbr zbA;rw[htk,if_pos rfl,Bool.true_and,← HOK.out,if_neg (by simp)];exact⟨rfl,HEY.out⟩
   obtain⟨y0,y1,y2,y3,y4,g0,g1,g2,g3,g4⟩:=zb5.facts;obtain⟨m0,m1,m2,m3,m4,n0,n1,n2,n3,n4⟩:=z5.facts;have hzF:=zF z5 (.slice am mn cm) (.slice ay yn cy) (.slice ao on co) (.slice an nn cn) seq4;obtain⟨f0,f1,f2,f3,f4,-⟩:=hzF.facts;have END:Hid (zdS w X (.returned (.tuple #[.agg #[.slice am mn cm,.slice ay yn cy,.slice ao on co,.int .i64 seq4,.slice an nn cn],.bool false])) (put5 w5 (w.heap.size+1) (.slice am mn cm) (.slice ay yn cy) (.slice ao on co) (.int .i64 seq4) (.slice an nn cn))):=by
    have hc:w.heap.size+1<w1.heap.size:=(by omega);refine⟨⟨.slice am mn cm,.slice ay yn cy,.slice ao on co,.slice an nn cn,mem4,ys4,os4,seq4,snaps4⟩,by rw[← HFIN.out.1],HFIN.out.2,RowsTr.mono (lo:=w1.heap.size) ⟨zt hr5.mem hc,zt hr5.young hc,hr5.youngs.put5 hc,zt hr5.old hc,hr5.olds.put5 hc,zt hr5.snaps hc⟩ (by omega),zR bw5 (by omega)⟩
   unfold put5 at f0 f1 f2 f3 f4;clear HFIN HEY hzF zb5 z5 bw5 hr5 hTP hr3 zb z4 bw3 hno hyes hb5 EY EO ES LY;go_wp2;exact bodyPost_ret (v:=.tuple #[.agg #[.slice am mn cm,.slice ay yn cy,.slice ao on co,.int .i64 seq4,.slice an nn cn],.bool false]) (by simp[results,Tryz.results9,go_sem,f0,f1,f2,f3,f4]) rfl END.out
  | true =>
   obtain⟨vm',vy',vb,vk,zb5,om5,oy5,oi5,ok5,hto⟩:=hyes rfl;have hr5:=hr3.touch hto (fun k hk e=>by have:=UB.out k hk;have:=H1 k e;omega);have bw5:Below w.heap.size w w5:=hto.below bw3 (fun k hk=>by have:=H1 k hk;omega);have z5:BoxTr w5 (w.heap.size+1) (.slice none 0 0) (.slice none 0 0) (.slice none 0 0) 0 (.slice none 0 0):=(hto.block _ (by omega) (fun e=>by have:=H1 _ e;omega)).trans z4;obtain⟨au,cu,hvu⟩:=zK om5;obtain⟨av,cv,hvv⟩:=zK oy5;have HFIN:Hid (true=zbr X.tre∧(⟨[],((⟨zC mem4,vb,vk⟩:TV)::ys4).map (·.T),os4.map (·.T),seq4,snaps4⟩:Tre)=zbA X.tre):=by
    unfold Hid zbr zbA;rw[htk,if_pos rfl,Bool.true_and,← HOK.out,if_pos rfl,List.map_cons,EY,EO,ES,HMY.out,HQY.out];exact⟨rfl,rfl⟩
   generalize ([]:List Ent).length=un at hvu;generalize ((⟨zC mem4,vb,vk⟩:TV)::ys4).length=vn at hvv;subst hvu;subst hvv;obtain⟨y0,y1,y2,y3,y4,g0,g1,g2,g3,g4⟩:=zb5.facts;obtain⟨m0,m1,m2,m3,m4,n0,n1,n2,n3,n4⟩:=z5.facts;have hzF:=zF z5 (.slice au un cu) (.slice av vn cv) (.slice ao on co) (.slice an nn cn) seq4;obtain⟨f0,f1,f2,f3,f4,-⟩:=hzF.facts;have END:Hid (zdS w X (.returned (.tuple #[.agg #[.slice au un cu,.slice av vn cv,.slice ao on co,.int .i64 seq4,.slice an nn cn],.bool true])) (put5 w5 (w.heap.size+1) (.slice au un cu) (.slice av vn cv) (.slice ao on co) (.int .i64 seq4) (.slice an nn cn))):=by
    have hc:w.heap.size+1<w1.heap.size:=(by omega);have hc3:w.heap.size+1<W3.heap.size:=(by omega);have h1:RowsTr (put5 w5 (w.heap.size+1) (.slice au un cu) (.slice av vn cv) (.slice ao on co) (.int .i64 seq4) (.slice an nn cn)) w1.heap.size ⟨.slice au un cu,.slice av vn cv,.slice ao on co,.slice an nn cn,[],⟨zC mem4,vb,vk⟩::ys4,os4,seq4,snaps4⟩ :=
     ⟨OwnE.mono (zt om5 hc3) (by omega),OwnT.mono (zt oy5 hc3) (by omega),(fun t ht=>by
      rcases List.mem_cons.1 ht with rfl | ht
      ·exact⟨OwnI.mono (zt oi5 hc3) (by omega),OwnS.mono (zt ok5 hc3) (by omega)⟩
      ·exact hr5.youngs.put5 hc t ht),zt hr5.old hc,hr5.olds.put5 hc,zt hr5.snaps hc⟩
    exact⟨⟨.slice au un cu,.slice av vn cv,.slice ao on co,.slice an nn cn,[],⟨zC mem4,vb,vk⟩::ys4,os4,seq4,snaps4⟩,by rw[← HFIN.out.1],HFIN.out.2,h1.mono (by omega),zR bw5 (by omega)⟩
   unfold put5 at f0 f1 f2 f3 f4;clear HFIN HEY hzF zb5 z5 bw5 hr5 hTP hr3 zb z4 bw3 hno hyes hto om5 oy5 oi5 ok5 EY EO ES LY;go_wp2;exact bodyPost_ret (v:=.tuple #[.agg #[.slice au un cu,.slice av vn cv,.slice ao on co,.int .i64 seq4,.slice an nn cn],.bool true]) (by simp[results,Tryz.results9,go_sem,f0,f1,f2,f3,f4]) rfl END.out
end Go.Proofs.YtjlnchhgkfnldaaGreat
