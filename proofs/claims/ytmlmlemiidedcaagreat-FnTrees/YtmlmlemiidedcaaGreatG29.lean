import Derived.Test.YtmlmlemiidedcaaGreatG28
namespace Go.Proofs.YtmlmlemiidedcaaGreat
set_option maxHeartbeats 16000000
set_option maxRecDepth 100000
open Go.RowKit
def snapAt (seq:Int) (ss:List Int) (i:Nat):Bool:=decide (0≤ss.getD i 0) && decide (ss.getD i 0≤seq) && (decide (i=0) || decide (ss.getD (i - 1) 0 < ss.getD i 0))
theorem snaps_no {seq:Int} {ss:List Int} {i:Nat} (hi:i < ss.length) (h:snapAt seq ss i=false):snapsOk seq ss=false:=by
 unfold snapsOk
 rw [List.all_eq_false]
 exact ⟨i,List.mem_range.2 hi,by show ¬ snapAt seq ss i=true;rw [h];simp⟩
theorem snaps_yes {seq:Int} {ss:List Int} (h:∀ i,i < ss.length→snapAt seq ss i=true):snapsOk seq ss=true:=by
 unfold snapsOk
 rw [List.all_eq_true]
 intro i hi
 exact h i (List.mem_range.1 hi)
theorem getD_at {ss:List Int} {i:Nat} (h:i < ss.length):ss.getD i 0=ss[i]:=by simp [List.getD,List.getElem?_eq_getElem h]
theorem top_no {all:List Ent} {seq:Int} {i:Nat} (hi:i < all.length) (h:¬ (nth all i).seq≤seq):all.all (fun e=>decide (e.seq≤seq))=false:=by
 rw [List.all_eq_false]
 exact ⟨nth all i,by rw [nth_eq hi];exact List.getElem_mem hi,by simp;omega⟩
theorem top_yes {all:List Ent} {seq:Int} (h:∀ i,i < all.length→(nth all i).seq≤seq):all.all (fun e=>decide (e.seq≤seq))=true:=by
 rw [List.all_eq_true]
 intro e he
 obtain ⟨i,hi,rfl⟩:=List.mem_iff_getElem.1 he
 have:=h i hi
 rw [nth_eq hi] at this
 simpa using this
def tokR (mem all:List Ent) (is:Bool) (seq:Int) (snaps:List Int):Bool:=is && decide (0≤seq) && decide (seq≤1000000) && decide (snaps.length≤10) && snapsOk seq snaps && all.all (fun e=>decide (e.seq≤seq)) && newerL mem all
theorem tok_eq (T:Tre):treeOk T=tokR T.mem (allT T).1 (allT T).2 T.seq T.snaps:=rfl
theorem tok_0 {mem all:List Ent} {is:Bool} {seq:Int} {snaps:List Int} (h:is=false∨(decide (0≤seq) && decide (seq≤1000000))=false∨¬ snaps.length≤10):tokR mem all is seq snaps=false:=by
 unfold tokR
 rcases h with h | h | h
 ·rw [h];rfl
 ·rw [Bool.and_assoc is,h,Bool.and_false];rfl
 ·rw [decide_eq_false h];simp
theorem tok_1 {mem all:List Ent} {is:Bool} {seq:Int} {snaps:List Int} (h:snapsOk seq snaps=false):tokR mem all is seq snaps=false:=by unfold tokR;rw [h];simp
theorem tok_2 {mem all:List Ent} {is:Bool} {seq:Int} {snaps:List Int} (h:all.all (fun e=>decide (e.seq≤seq))=false):tokR mem all is seq snaps=false:=by unfold tokR;rw [h];simp
theorem tok_3 {mem all:List Ent} {is:Bool} {seq:Int} {snaps:List Int} (h1:is=true) (h2:(decide (0≤seq) && decide (seq≤1000000))=true) (h3:snaps.length≤10) (h4:snapsOk seq snaps=true) (h5:all.all (fun e=>decide (e.seq≤seq))=true):tokR mem all is seq snaps=newerL mem all:=by
 unfold tokR
 rw [Bool.and_assoc is,h1,h2,decide_eq_true h3,h4,h5]
 simp
theorem specTreeOk_any (X:TrX) (w:World) (hx:RdTr w X) (hf:FitTr X) :
 Calls Tryz.prog 14 #[.agg #[X.vm,X.vy,X.vo,.int .i64 X.seq,X.vs]] w fun e w'=>e=.returned (.bool (treeOk X.tre))∧Below w.heap.size w w':=by
 have HALL:Hid (∀ W,RdTr W X→Calls Tryz.prog 46 #[.agg #[X.vm,X.vy,X.vo,.int .i64 X.seq,X.vs]] W fun e w'=>AllPost W X e w'):=fun W h=>l7All_any X W h hf
 have HNW:Hid (∀ va all W,RdTr W X→RdE W va all→Calls Tryz.prog 48 #[.agg #[X.vm,X.vy,X.vo,.int .i64 X.seq,X.vs],va] W fun e w'=>e=.returned (.bool (newerL X.mem all))∧Below W.heap.size W w'):=fun va all W h1 h2=>l7Newer_any X va all W h1 h2
 rw [tok_eq]
 have hmt:X.tre.mem=X.mem:=rfl
 have hst:X.tre.seq=X.seq:=rfl
 have hpt:X.tre.snaps=X.snaps:=rfl
 rw [hmt,hst,hpt]
 clear hmt hst hpt
 unfold AllPost at HALL
 generalize allT X.tre=AT at HALL ⊢
 obtain ⟨all,is⟩:=AT
 simp only at HALL ⊢
 obtain ⟨asn,cs,hvs,hls,hms,-⟩:=id hx.snaps
 obtain ⟨sn,hsn⟩:∃ sn,sn=X.snaps.length:=⟨_,rfl⟩
 rw [← hsn] at hvs hls
 have HSN:Hid (sn=X.snaps.length):=hsn
 have HVS:Hid (X.vs=.slice asn sn cs):=hvs
 unfold maxLen at hms
 clear hsn hvs
 have ht0:=treAt_new w X 28
 have b0:=below1 w (.cells #[X.vm,X.vy,X.vo,.int .i64 X.seq,X.vs] 28)
 obtain ⟨q0,q1,q2,q3,q4⟩:=id ht0
 go_enter Tryz.func14,Tryz.ntmps14
 go_wp2_with fail
 refine (HALL.out _ (hx.below b0)).mono ?_
 rintro e w1 ⟨u,rfl,ho1,hb1⟩
 have ht1:=ht0.below hb1
 have b1:=b0.trans (hb1.mono b0.size)
 obtain ⟨aa,ca,hva,hla,hma,-⟩:=id ho1.rd
 obtain ⟨an,han⟩:∃ an,an=all.length:=⟨_,rfl⟩
 rw [← han] at hva hla
 have HAN:Hid (an=all.length):=han
 subst hva
 unfold maxLen at hma
 have hra:RdE w1 (.slice aa an ca) all:=ho1.rd
 clear han HALL ht0 b0 hb1 ho1 q0 q1 q2 q3 q4
 obtain ⟨q0,q1,q2,q3,q4⟩:=id ht1
 rw [HVS.out] at q4
 cases is with
 | false =>
  have RES:Hid (tokR X.mem all false X.seq X.snaps=false):=tok_0 (.inl rfl)
  go_wp2
  go_ret
  exact ⟨ret_bool RES.out.symm,b1⟩
 | true =>
  obtain ⟨rg,hrg⟩:∃ rg,rg=(decide (0≤X.seq) && decide (X.seq≤1000000)):=⟨_,rfl⟩
  have HIN:=l1In_any X.seq 0 1000000 w1
  rw [← hrg] at HIN
  have HIN1:Hid (Calls _ _ _ _ _):=HIN
  have HRG:Hid (rg=(decide (0≤X.seq) && decide (X.seq≤1000000))):=hrg
  clear HIN hrg
  go_wp2_with fail
  refine HIN1.out.mono ?_
  rintro e w2 ⟨rfl,rfl⟩
  clear HIN1
  cases rg with
  | false =>
   have RES:Hid (tokR X.mem all true X.seq X.snaps=false):=tok_0 (.inr (.inl HRG.out.symm))
   go_wp2
   go_ret
   exact ⟨ret_bool RES.out.symm,b1⟩
  | true =>
   by_cases hs10:10 < sn
   ·skip
    have RES:Hid (tokR X.mem all true X.seq X.snaps=false):=tok_0 (.inr (.inr (by rw [← HSN.out];omega)))
    have hsi:(10:Int) < (sn:Int):=by omega
    go_wp2
    go_ret
    exact ⟨ret_bool RES.out.symm,b1⟩
   ·have hsi:¬ (10:Int) < (sn:Int):=by omega
    go_wp2
    go_loopw [5] (fun i wr=>∃ k:Nat,k≤sn∧i=.int .i64 k∧Hid (∀ j,j < k→snapAt X.seq X.snaps j=true)∧TreAt wr w.heap.size X∧RdE wr (.slice aa an ca) all∧Below w.heap.size w wr) (fun i _=>sn - (intOf i).toNat)
    case atStart=>exact ⟨0,Nat.zero_le _,rfl,(fun j h=>by omega),ht1,hra,b1⟩
    case round =>
     obtain ⟨k,hk,rfl,HH,htA,hrA,hb⟩:=hrel
     clear q0 q1 q2 q3 q4 ht1 hra b1
     obtain ⟨q0,q1,q2,q3,q4⟩:=id htA
     rw [HVS.out] at q4
     by_cases hlt:k < sn
     ·have hkl:k < X.snaps.length:=by rw [← HSN.out];exact hlt
      have hrs:=hx.snaps.below hb
      rw [HVS.out] at hrs
      obtain ⟨b,off,rfl,hc⟩:=hrs.at k hkl
      obtain ⟨x,hxx⟩:∃ x,x=X.snaps[k]:=⟨_,rfl⟩
      rw [← hxx] at hc
      have hgx:X.snaps.getD k 0=x:=by rw [hxx];exact getD_at hkl
      have hkc:k < cs:=by omega
      obtain ⟨rg,hrg⟩:∃ rg,rg=(decide (0≤x) && decide (x≤X.seq)):=⟨_,rfl⟩
      have HIN:=fun W=>l1In_any x 0 X.seq W
      rw [← hrg] at HIN
      have HIN1:Hid (∀ W,Calls Tryz.prog 47 #[.int .i64 x,.int .i64 0,.int .i64 X.seq] W fun e w'=>e=.returned (.bool rg)∧w'=W):=HIN
      clear HIN
      cases rg with
      | false =>
       have RES:Hid (tokR X.mem all true X.seq X.snaps=false):=tok_1 (snaps_no hkl (by unfold snapAt;rw [hgx,← hrg];rfl))
       clear hrg hxx hgx hrs
       go_wp2_with fail
       refine wp_region_noPanic ?_
       refine wp_region_held_drew (S:=fun W=>W.cell? ⟨w.heap.size,3,none⟩=some (.int .i64 X.seq)∧W.cell? ⟨w.heap.size,4,none⟩=some (.slice (some ⟨b,off,none⟩) sn cs)∧W.cell? ⟨b,off+k,none⟩=some (.int .i64 x)) (by kernel_rfl) ⟨q3,q4,hc⟩ (fun hH=>?_)
       refine kA 0 33 hH ?_
       refine kA 1 34 hH ?_
       refine kA 2 35 hH ?_
       refine kA 3 36 hH ?_
       refine kA 4 37 hH ?_
       refine kA 5 38 hH ?_
       refine kA 6 39 hH ?_
       refine wpAnyH_ready (rs:=[7]) (by kernel_rfl) (by simp) ?_
       refine AllReadyH.cons rfl (fun K hK=>?_) AllReadyH.nil
       go_simp
       refine (HIN1.out _).mono ?_
       rintro e w3 ⟨rfl,rfl⟩
       refine hK.out _ _ hH (fun hB=>?_)
       clear hK K
       try simp only [Act.put,sA,sZ,sS]
       refine kA 8 41 hB ?_
       refine kA 9 42 hB ?_
       refine kS 10 43 hB ?_
       refine kS 11 44 hB ?_
       refine kS 12 45 hB ?_
       refine kS 13 46 hB ?_
       refine kS 14 47 hB ?_
       refine kS 15 48 hB ?_
       refine kS 16 49 hB ?_
       refine kS 17 50 hB ?_
       refine kS 18 51 hB ?_
       refine kS 19 52 hB ?_
       refine kS 20 53 hB ?_
       refine kS 21 54 hB ?_
       refine kS 22 55 hB ?_
       refine kS 23 56 hB ?_
       refine kS 24 57 hB ?_
       refine kS 25 58 hB ?_
       refine kA 26 59 hB ?_
       refine wpAnyH_done (by kernel_rfl) ?_ _
       refine NoPanic.normal ?_
       go_wp2
       go_ret
       exact ⟨ret_bool RES.out.symm,hb.drew⟩
      | true =>
       by_cases hk0:k=0
       ·skip
        have HH2:Hid (∀ j,j < k+1→snapAt X.seq X.snaps j=true):=fun j hj=>by
         by_cases e:j=k
         ·rw [e];unfold snapAt;rw [hgx,← hrg,hk0];rfl
         ·exact HH.out j (by omega)
        have hkp:¬ 0 < k:=by omega
        clear hrg hxx hgx hrs hk0
        go_wp2_with fail
        refine wp_region_noPanic ?_
        refine wp_region_held_drew (S:=fun W=>W.cell? ⟨w.heap.size,3,none⟩=some (.int .i64 X.seq)∧W.cell? ⟨w.heap.size,4,none⟩=some (.slice (some ⟨b,off,none⟩) sn cs)∧W.cell? ⟨b,off+k,none⟩=some (.int .i64 x)) (by kernel_rfl) ⟨q3,q4,hc⟩ (fun hH=>?_)
        refine kA 0 33 hH ?_
        refine kA 1 34 hH ?_
        refine kA 2 35 hH ?_
        refine kA 3 36 hH ?_
        refine kA 4 37 hH ?_
        refine kA 5 38 hH ?_
        refine kA 6 39 hH ?_
        refine wpAnyH_ready (rs:=[7]) (by kernel_rfl) (by simp) ?_
        refine AllReadyH.cons rfl (fun K hK=>?_) AllReadyH.nil
        go_simp
        refine (HIN1.out _).mono ?_
        rintro e w3 ⟨rfl,rfl⟩
        refine hK.out _ _ hH (fun hB=>?_)
        clear hK K
        try simp only [Act.put,sA,sZ,sS]
        refine kA 8 41 hB ?_
        refine kA 9 42 hB ?_
        refine kA 10 43 hB ?_
        refine kA 11 44 hB ?_
        refine kA 12 45 hB ?_
        refine kS 13 46 hB ?_
        refine kS 14 47 hB ?_
        refine kS 15 48 hB ?_
        refine kS 16 49 hB ?_
        refine kS 17 50 hB ?_
        refine kS 18 51 hB ?_
        refine kS 19 52 hB ?_
        refine kS 20 53 hB ?_
        refine kS 21 54 hB ?_
        refine kS 22 55 hB ?_
        refine kS 23 56 hB ?_
        refine kS 24 57 hB ?_
        refine kA 25 58 hB ?_
        refine kA 26 59 hB ?_
        refine wpAnyH_done (by kernel_rfl) ?_ _
        refine NoPanic.normal ?_
        go_wp2
        go_roundw
        case rel=>exact ⟨k+1,by omega,by go_num,HH2,htA,hrA,hb.drew⟩
        case measure=>simp [intOf];omega
       ·obtain ⟨m,hm⟩:∃ m,m=k - 1:=⟨_,rfl⟩
        have hml:m < X.snaps.length:=by omega
        obtain ⟨b',off',hbo,hc1⟩:=hrs.at m hml
        cases hbo
        obtain ⟨y,hyy⟩:∃ y,y=X.snaps[m]:=⟨_,rfl⟩
        rw [← hyy] at hc1
        have hgy:X.snaps.getD (k - 1) 0=y:=by rw [hyy,← hm];exact getD_at hml
        have hkm:(k:Int) - 1=(m:Int):=by omega
        have hwm:IntKind.i64.wrap (m:Int)=(m:Int):=by rw [IntKind.wrap_i64];omega
        have hmc:m < cs:=by omega
        have hmn:m < sn:=by omega
        have hkp:0 < k:=by omega
        obtain ⟨le,hle⟩:∃ le,le=decide (x≤y):=⟨_,rfl⟩
        cases le with
        | true =>
         have RES:Hid (tokR X.mem all true X.seq X.snaps=false):=tok_1 (snaps_no hkl (by
          unfold snapAt
          rw [hgx,hgy,← hrg,decide_eq_false (show ¬ k=0 by omega),decide_eq_false (show ¬ y < x by have:=of_decide_eq_true hle.symm;omega)]
          rfl))
         have hxy:x≤y:=of_decide_eq_true hle.symm
         clear hrg hxx hgx hgy hyy hrs hle hm hk0
         go_wp2_with fail
         refine wp_region_noPanic ?_
         refine wp_region_held_drew (S:=fun W=>W.cell? ⟨w.heap.size,3,none⟩=some (.int .i64 X.seq)∧W.cell? ⟨w.heap.size,4,none⟩=some (.slice (some ⟨b,off,none⟩) sn cs)∧W.cell? ⟨b,off+k,none⟩=some (.int .i64 x)∧W.cell? ⟨b,off+m,none⟩=some (.int .i64 y)) (by kernel_rfl) ⟨q3,q4,hc,hc1⟩ (fun hH=>?_)
         refine kA 0 33 hH ?_
         refine kA 1 34 hH ?_
         refine kA 2 35 hH ?_
         refine kA 3 36 hH ?_
         refine kA 4 37 hH ?_
         refine kA 5 38 hH ?_
         refine kA 6 39 hH ?_
         refine wpAnyH_ready (rs:=[7]) (by kernel_rfl) (by simp) ?_
         refine AllReadyH.cons rfl (fun K hK=>?_) AllReadyH.nil
         go_simp
         refine (HIN1.out _).mono ?_
         rintro e w3 ⟨rfl,rfl⟩
         refine hK.out _ _ hH (fun hB=>?_)
         clear hK K
         try simp only [Act.put,sA,sZ,sS]
         refine kA 8 41 hB ?_
         refine kA 9 42 hB ?_
         refine kA 10 43 hB ?_
         refine kA 11 44 hB ?_
         refine kA 12 45 hB ?_
         refine kA 13 46 hB ?_
         refine kA 14 47 hB ?_
         refine kA 15 48 hB ?_
         refine kA 16 49 hB ?_
         refine kA 17 50 hB ?_
         refine kA 18 51 hB ?_
         refine kA 19 52 hB ?_
         refine kA 20 53 hB ?_
         refine kA 21 54 hB ?_
         refine kA 22 55 hB ?_
         refine kA 23 56 hB ?_
         refine kA 24 57 hB ?_
         refine kA 25 58 hB ?_
         refine kA 26 59 hB ?_
         refine wpAnyH_done (by kernel_rfl) ?_ _
         refine NoPanic.normal ?_
         go_wp2
         go_ret
         exact ⟨ret_bool RES.out.symm,hb.drew⟩
        | false =>
         have hxy:¬ x≤y:=of_decide_eq_false hle.symm
         have HH2:Hid (∀ j,j < k+1→snapAt X.seq X.snaps j=true):=fun j hj=>by
          by_cases e:j=k
          ·rw [e];unfold snapAt;rw [hgx,hgy,← hrg,decide_eq_true (show y < x by omega)];simp
          ·exact HH.out j (by omega)
         clear hrg hxx hgx hgy hyy hrs hle hm hk0
         go_wp2_with fail
         refine wp_region_noPanic ?_
         refine wp_region_held_drew (S:=fun W=>W.cell? ⟨w.heap.size,3,none⟩=some (.int .i64 X.seq)∧W.cell? ⟨w.heap.size,4,none⟩=some (.slice (some ⟨b,off,none⟩) sn cs)∧W.cell? ⟨b,off+k,none⟩=some (.int .i64 x)∧W.cell? ⟨b,off+m,none⟩=some (.int .i64 y)) (by kernel_rfl) ⟨q3,q4,hc,hc1⟩ (fun hH=>?_)
         refine kA 0 33 hH ?_
         refine kA 1 34 hH ?_
         refine kA 2 35 hH ?_
         refine kA 3 36 hH ?_
         refine kA 4 37 hH ?_
         refine kA 5 38 hH ?_
         refine kA 6 39 hH ?_
         refine wpAnyH_ready (rs:=[7]) (by kernel_rfl) (by simp) ?_
         refine AllReadyH.cons rfl (fun K hK=>?_) AllReadyH.nil
         go_simp
         refine (HIN1.out _).mono ?_
         rintro e w3 ⟨rfl,rfl⟩
         refine hK.out _ _ hH (fun hB=>?_)
         clear hK K
         try simp only [Act.put,sA,sZ,sS]
         refine kA 8 41 hB ?_
         refine kA 9 42 hB ?_
         refine kA 10 43 hB ?_
         refine kA 11 44 hB ?_
         refine kA 12 45 hB ?_
         refine kA 13 46 hB ?_
         refine kA 14 47 hB ?_
         refine kA 15 48 hB ?_
         refine kA 16 49 hB ?_
         refine kA 17 50 hB ?_
         refine kA 18 51 hB ?_
         refine kA 19 52 hB ?_
         refine kA 20 53 hB ?_
         refine kA 21 54 hB ?_
         refine kA 22 55 hB ?_
         refine kA 23 56 hB ?_
         refine kA 24 57 hB ?_
         refine kA 25 58 hB ?_
         refine kA 26 59 hB ?_
         refine wpAnyH_done (by kernel_rfl) ?_ _
         refine NoPanic.normal ?_
         go_wp2
         go_roundw
         case rel=>exact ⟨k+1,by omega,by go_num,HH2,htA,hrA,hb.drew⟩
         case measure=>simp [intOf];omega
     ·skip
      have HSO:Hid (snapsOk X.seq X.snaps=true):=snaps_yes (fun i hi=>HH.out i (by have:=HSN.out;omega))
      have hltI:¬ (k:Int) < (sn:Int):=by omega
      go_wp2
      go_loopw [6] (fun i wr'=>∃ k:Nat,k≤an∧i=.int .i64 k∧Hid (∀ j,j < k→(nth all j).seq≤X.seq)∧TreAt wr' w.heap.size X∧RdE wr' (.slice aa an ca) all∧Below w.heap.size w wr') (fun i _=>an - (intOf i).toNat)
      case atStart=>exact ⟨0,Nat.zero_le _,rfl,(fun j h=>by omega),htA,hrA,hb⟩
      case round =>
       clear HH hlt hltI hk
       obtain ⟨j,hj,rfl,HH,htB,hrB,hb2⟩:=hrel
       clear q0 q1 q2 q3 q4 htA hrA hb
       obtain ⟨q0,q1,q2,q3,q4⟩:=id htB
       by_cases hlt:j < an
       ·have hjl:j < all.length:=by rw [← HAN.out];exact hlt
        obtain ⟨b,off,rfl,hc⟩:=hrB.at HAN.out j hjl
        have hjc:j < ca:=by omega
        obtain ⟨y,hy⟩:∃ y,y=nth all j:=⟨_,rfl⟩
        rw [← hy] at hc
        obtain ⟨-,-,c2,-⟩:=id hc
        by_cases hle:y.seq≤X.seq
        ·skip
         have HH2:Hid (∀ i,i < j+1→(nth all i).seq≤X.seq):=fun i hi=>by
          by_cases e:i=j
          ·rw [e,← hy];exact hle
          ·exact HH.out i (by omega)
         have hgt:¬ X.seq < y.seq:=by omega
         clear hy
         go_wp2_with fail
         refine wp_region_noPanic ?_
         refine wp_region_held_drew (S:=fun W=>W.cell? ⟨w.heap.size,3,none⟩=some (.int .i64 X.seq)∧EntAt W b (off+j*4) y) (by kernel_rfl) ⟨q3,hc⟩ (fun hH=>?_)
         refine kA 0 66 hH ?_
         refine kA 1 67 hH ?_
         refine kA 2 68 hH ?_
         refine kA 3 69 hH ?_
         refine kA 4 70 hH ?_
         refine kA 5 71 hH ?_
         refine kA 6 72 hH ?_
         refine kA 7 73 hH ?_
         refine wpAnyH_done (by kernel_rfl) ?_ _
         refine NoPanic.normal ?_
         go_wp2
         go_roundw
         case rel=>exact ⟨j+1,by omega,by go_num,HH2,htB,hrB,hb2.drew⟩
         case measure=>simp [intOf];omega
        ·skip
         have RES:Hid (tokR X.mem all true X.seq X.snaps=false):=tok_2 (top_no hjl (by rw [← hy];exact hle))
         have hgt:X.seq < y.seq:=by omega
         clear hy
         go_wp2_with fail
         refine wp_region_noPanic ?_
         refine wp_region_held_drew (S:=fun W=>W.cell? ⟨w.heap.size,3,none⟩=some (.int .i64 X.seq)∧EntAt W b (off+j*4) y) (by kernel_rfl) ⟨q3,hc⟩ (fun hH=>?_)
         refine kA 0 66 hH ?_
         refine kA 1 67 hH ?_
         refine kA 2 68 hH ?_
         refine kA 3 69 hH ?_
         refine kA 4 70 hH ?_
         refine kA 5 71 hH ?_
         refine kA 6 72 hH ?_
         refine kA 7 73 hH ?_
         refine wpAnyH_done (by kernel_rfl) ?_ _
         refine NoPanic.normal ?_
         go_wp2
         go_ret
         exact ⟨ret_bool RES.out.symm,hb2.drew⟩
       ·skip
        have RES:Hid (tokR X.mem all true X.seq X.snaps=newerL X.mem all):=tok_3 rfl HRG.out.symm (by rw [← HSN.out];omega) HSO.out (top_yes (fun i hi=>HH.out i (by have:=HAN.out;omega)))
        have hltJ:¬ (j:Int) < (an:Int):=by omega
        go_wp2_with fail
        refine (HNW.out _ all _ (hx.below hb2) hrB).mono ?_
        rintro e w3 ⟨rfl,hb3⟩
        go_wp2
        go_ret
        exact ⟨ret_bool RES.out.symm,hb2.trans (hb3.mono hb2.size)⟩
open Go.RowKit
end Go.Proofs.YtmlmlemiidedcaaGreat
