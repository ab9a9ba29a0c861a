/- The contracts of the program's unpackedBlocks and packedBlocks. Plain facts on the marks as bits of four words: no function of the program is walked here. -/
import Derived.Test.YtbefmbjlogkmbaaGreatG18
import Derived.Test.YtbefmbjlogkmbaaGreatTabSpec5
import Derived.Test.YtbefmbjlogkmbaaGreatG20
import Derived.Test.YtbefmbjlogkmbaaGreatPackImpl
namespace Go.Proofs.YtbefmbjlogkmbaaGreat
set_option maxHeartbeats 16000000
set_option maxRecDepth 100000
open Go.RowKit
def allI (T : Tbl) : List Ent × Bool := if (allL T).2 = true then allL T else ([], false)
theorem allI_no {T : Tbl} (h : allL T = ([], false)) : allI T = ([], false) := by unfold allI; rw [h]; rfl
theorem allI_is {T : Tbl} {es : List Ent} (h : allL T = (es, okL es)) : allI T = if okL es = true then (es, true) else ([], false) := by
  unfold allI
  rw [h]
  simp only
  split
  · rename_i h2; rw [h2]
  · rfl
theorem unpackedBlocks_any (T : Tbl) (vk : Value) (w : World) (hr : RdS w vk T.blocks) (hz : ∀ s ∈ T.blocks, s.size ≤ 1000000000) :
    Calls Tryz.prog 117 #[vk] w fun e w' => UnpPost w (allI T) e w' := by
  obtain ⟨ak, ck, hvk, hl, hm, _⟩ := id hr
  obtain ⟨kn, hkn⟩ : ∃ kn, kn = T.blocks.length := ⟨_, rfl⟩
  have HKN : Hid (kn = T.blocks.length) := hkn
  rw [← hkn] at hl hvk
  subst hvk
  clear hkn
  unfold maxLen at hm
  have HZ : Hid (∀ s ∈ T.blocks, s.size ≤ 1000000000) := hz
  clear hz
  obtain ⟨F, hF⟩ : ∃ F, F = allI T := ⟨_, rfl⟩
  rw [← hF]
  have HF : Hid (F = allI T) := hF
  clear hF
  by_cases hbad : kn < 1 ∨ 40 < kn
  · have RES : Hid (F = ([], false)) := by unfold Hid; rw [HF.out]; exact allI_no (by unfold allL; rw [← HKN.out, if_pos hbad])
    have hoE := ownE_none w
    rcases hbad with hb1 | hb1
    · have hd1 : decide ((kn : Int) < 1) = true := by simp; omega
      go_enter Tryz.func117, Tryz.ntmps117
      go_wp2
      go_ret2
      exact unpPost_no RES.out hoE (Nat.le_refl _) (below1 _ _)
    · have hd1 : decide ((kn : Int) < 1) = false := by simp; omega
      have hd2 : decide (40 < (kn : Int)) = true := by simp; omega
      go_enter Tryz.func117, Tryz.ntmps117
      go_wp2
      go_ret2
      exact unpPost_no RES.out hoE (Nat.le_refl _) (below1 _ _)
  obtain ⟨res, hres⟩ : ∃ res, res = allF T.blocks [] := ⟨_, rfl⟩
  have HR0 : Hid (allF (T.blocks.drop 0) [] = res) := by rw [List.drop_zero]; exact hres.symm
  have R0 : Hid (res = none → F = ([], false)) := fun h => by rw [HF.out]; exact allI_no (by unfold allL; rw [← HKN.out, if_neg hbad, ← hres, h])
  have R1 : Hid (∀ es, res = some es → F = if okL es = true then (es, true) else ([], false)) := fun es h => by rw [HF.out]; exact allI_is (by unfold allL; rw [← HKN.out, if_neg hbad, ← hres, h])
  clear hres HF
  have hk1 : 1 ≤ kn := by omega
  have hk2 : kn ≤ 40 := by omega
  have hd1 : decide ((kn : Int) < 1) = false := by simp; omega
  have hd2 : decide (40 < (kn : Int)) = false := by simp; omega
  have hoE := ownE_none w
  have b1 := below1 w (.cells #[] 89)
  clear hbad
  go_enter Tryz.func117, Tryz.ntmps117
  go_wp2
  go_loopw [4, 21] (fun u i wr => ∃ (k : Nat) (es : List Ent), k ≤ kn ∧ i = .int .i64 k ∧ Hid (allF (T.blocks.drop k) es = res) ∧ es.length ≤ 8 * k ∧ Hid (∀ x ∈ es, Fits x) ∧ OwnE wr w.heap.size u es ∧ Below w.heap.size w wr) (fun _ i _ => kn - (intOf i).toNat)
  case atStart => exact ⟨0, [], Nat.zero_le _, rfl, HR0, Nat.zero_le _, (fun x hx => by cases hx), hoE, b1⟩
  case round =>
    obtain ⟨k, es, hk, rfl, HA, hel, HFT, ho, hb⟩ := hrel
    clear hoE b1 HR0
    by_cases hlt : k < kn
    · have hltb : k < T.blocks.length := by rw [← HKN.out]; exact hlt
      obtain ⟨b, off, rfl, hcs⟩ := (hr.below hb).at k hltb
      obtain ⟨s, hs⟩ : ∃ s, s = T.blocks[k] := ⟨_, rfl⟩
      rw [← hs] at hcs
      have hsz : s.size ≤ 1000000000 := by rw [hs]; exact HZ.out _ (List.getElem_mem hltb)
      have HA2 : Hid (allF (s :: T.blocks.drop (k + 1)) es = res) := by rw [hs, ← List.drop_eq_getElem_cons hltb]; exact HA
      clear hs HA
      have hcb := conv_bytes wr s
      have hrd := bytes_rd wr s (by unfold maxLen; omega)
      have hbb := bytes_below wr s
      generalize Lib.bytesWorld wr 5 s = W at hcb hrd hbb
      generalize grownCap wr s.size 0 5 = c0 at hcb hrd
      obtain ⟨F2, hF2⟩ : ∃ F2, F2 = unpI s.data.toList := ⟨_, rfl⟩
      have HCU : Hid (Calls Tryz.prog 142 #[.slice (some ⟨wr.heap.size, 0, none⟩) s.size c0] W fun e w' => UnpPost W F2 e w') := by rw [hF2]; exact implUnpacked_any _ _ _ hrd
      have HFF : Hid (∀ x ∈ F2.1, Fits x) := by rw [hF2]; exact unpI_fits _
      have HNO : Hid (¬ (F2.2 = true ∧ 1 ≤ F2.1.length ∧ F2.1.length ≤ 8) → F = ([], false)) := fun h => R0.out (by rw [← HA2.out]; exact allF_no (by rw [← hF2]; exact h))
      have HGO : Hid (F2.2 = true ∧ 1 ≤ F2.1.length ∧ F2.1.length ≤ 8 → allF (T.blocks.drop (k + 1)) (es ++ F2.1) = res) := fun h => by rw [← HA2.out, allF_go (by rw [← hF2]; exact h), ← hF2]
      clear hF2 hrd HA2
      obtain ⟨l, is⟩ := F2
      have ho2 := ho.below hbb
      have b2 := hb.trans (hbb.mono hb.size)
      clear ho hb hbb
      go_wp2_with fail
      refine HCU.out.mono ?_
      rintro e w3 ⟨ul, rfl, hl3, hb3⟩
      simp only at hl3 HNO HGO HFF ⊢
      have ho3 := ho2.below hb3
      have b3 := b2.trans (hb3.mono b2.size)
      clear ho2 b2 hb3 HCU hcb hcs
      obtain ⟨al, cl, hvl, hl1, hl2, _⟩ := id hl3.rd
      obtain ⟨ln, hln⟩ : ∃ ln, ln = l.length := ⟨_, rfl⟩
      rw [← hln] at hvl hl1 HNO HGO
      have HLN : Hid (ln = l.length) := hln
      subst hvl
      unfold maxLen at hl2
      clear hln
      cases is with
      | false =>
        have RES : Hid (F = ([], false)) := HNO.out (by simp)
        go_wp2
        go_ret2
        exact unpPost_no RES.out (ownE_new w3) b3.size (b3.alloc b3.size _)
      | true =>
        by_cases q1 : ln < 1
        · skip
          have RES : Hid (F = ([], false)) := HNO.out (by omega)
          have q1d : decide ((ln : Int) < 1) = true := by simp; omega
          go_wp2
          go_ret2
          exact unpPost_no RES.out (ownE_new w3) b3.size (b3.alloc b3.size _)
        · have q1d : decide ((ln : Int) < 1) = false := by simp; omega
          by_cases q2 : 8 < ln
          · skip
            have RES : Hid (F = ([], false)) := HNO.out (by omega)
            have q2d : decide (8 < (ln : Int)) = true := by simp; omega
            go_wp2
            go_ret2
            exact unpPost_no RES.out (ownE_new w3) b3.size (b3.alloc b3.size _)
          · skip
            have q2d : decide (8 < (ln : Int)) = false := by simp; omega
            have HA4 : Hid (allF (T.blocks.drop (k + 1)) (es ++ l) = res) := HGO.out ⟨rfl, by omega, by omega⟩
            have HFT4 : Hid (∀ x ∈ es ++ l, Fits x) := fun x hx => by
              rcases List.mem_append.1 hx with h | h
              · exact HFT.out x h
              · exact HFF.out x h
            have hel4 : (es ++ l).length ≤ 8 * (k + 1) := by rw [List.length_append, ← HLN.out]; omega
            go_wp2_with (at_builtin; (refine wpList_append_ents rfl _ _ rfl w.heap.size _ _ es l rfl rfl ho3 hl3.rd (by rw [← HLN.out]; omega) b3.size ?_))
            intro v5 w5 ho5 hg5
            have b5 := b3.grown hg5 b3.size (fun j hj => (World.ownsRow.lt ho3 j hj).1)
            clear ho3 b3 hl3 hg5
            go_wp2
            go_roundw
            case rel => exact ⟨k + 1, es ++ l, by omega, by go_num, HA4, hel4, HFT4, ho5, b5⟩
            case measure => simp [intOf]; omega
    · skip
      have hke : k = kn := by omega
      have RES : Hid (F = if okL es = true then (es, true) else ([], false)) := R1.out es (by have := HA.out; rw [hke, HKN.out, List.drop_eq_nil_of_le (Nat.le_refl _), allF] at this; exact this.symm)
      have hlt2 : ¬ (k : Int) < (kn : Int) := by omega
      clear hke HA
      have HCE := implEntriesOk_any u4 es wr ho.rd HFT.out
      cases hok : okL es with
      | false =>
        rw [hok] at HCE
        have RES2 : Hid (F = ([], false)) := by have := RES.out; rw [hok] at this; exact this
        have HC2 : Hid (Calls Tryz.prog 73 #[u4] wr fun e w' => e = .returned (.bool false) ∧ Below wr.heap.size wr w') := HCE
        clear hok HCE RES
        go_wp2_with fail
        refine HC2.out.mono ?_
        rintro e w3 ⟨rfl, hb3⟩
        have b3 := hb.trans (hb3.mono hb.size)
        clear HC2
        go_wp2
        go_ret2
        exact unpPost_no RES2.out (ownE_new w3) b3.size (b3.alloc b3.size _)
      | true =>
        rw [hok] at HCE
        have RES2 : Hid (F = (es, true)) := by have := RES.out; rw [hok] at this; exact this
        have HC2 : Hid (Calls Tryz.prog 73 #[u4] wr fun e w' => e = .returned (.bool true) ∧ Below wr.heap.size wr w') := HCE
        clear hok HCE RES
        go_wp2_with fail
        refine HC2.out.mono ?_
        rintro e w3 ⟨rfl, hb3⟩
        have ho3 := ho.below hb3
        have b3 := hb.trans (hb3.mono hb.size)
        clear HC2
        go_wp2
        go_ret2
        exact unpPost_yes RES2.out ho3 (Nat.le_refl _) b3
theorem wpList_append_txt1 {w : World} {ops : Array Oper} {rest : List Oper} {o : Oper} {a : Act} {Q : Exit → Act → World → Prop} (hgd : o.guard = none) (s x : Operand)
    (ho : o.op = .call { callee := .builtin .append, args := #[s, x], argTypes := #[70, 70] }) (base bP : Nat) (v : Value) (ys : List ByteArray) (y : ByteArray) (hs : a.eval s = v) (hx : a.eval x = .slice (some ⟨bP, 0, none⟩) 1 1) (hown : OwnS w base v ys) (hc : w.cell? ⟨bP, 0, none⟩ = some (.string y)) (hl : ys.length ≤ 1000000) (hbase : base ≤ w.heap.size)
    (h : ∀ v' w', OwnS w' base v' (ys ++ [y]) → w.grownBy w' v.ownBlock → wpList Tryz.prog ops Q rest (a.put o.dst v') w') : wpList Tryz.prog ops Q (o :: rest) a w := by
  refine wpList_plain hgd fun K hK => ?_
  obtain ⟨v', w', hrun, r1, r2⟩ := run_append_txt1 o.type hown hc hl hbase
  unfold Oper.wp
  simp [execOp, ho, resolve, invoke, builtin, hs, hx, hrun, Result.andThen]
  exact hK _ _ (h v' w' r1 r2)
theorem chunk_cut (es : List Ent) (i j : Nat) (hj : j = min (i + 8) es.length) : (es.take j).drop i = chunk es i := by
  unfold chunk
  have : es.take j = es.take (i + 8) := by
    rw [hj]
    by_cases h : i + 8 ≤ es.length
    · rw [Nat.min_eq_left h]
    · rw [Nat.min_eq_right (by omega), List.take_of_length_le (Nat.le_refl _), List.take_of_length_le (by omega)]
  rw [this, List.drop_take]
  congr 1
  omega
theorem packedBlocks_any (v : Value) (es : List Ent) (w : World) (hr : RdE w v es) (hok : okL es = true) :
    Calls Tryz.prog 76 #[v] w fun e w' => ∃ u, e = .returned u ∧ OwnS w' w.heap.size u (blksL es) ∧ Below w.heap.size w w' := by
  have hlen := okL_len hok
  have HF : Hid (∀ e ∈ es, Fits e) := okL_fitsT hok
  have HOK : Hid (okL es = true) := hok
  clear hok
  obtain ⟨a, cap, hv, hl, hm, _⟩ := id hr
  obtain ⟨nn, hnn⟩ : ∃ nn, nn = es.length := ⟨_, rfl⟩
  have HNN : Hid (nn = es.length) := hnn
  rw [← hnn] at hv hl hlen
  subst hv
  unfold maxLen at hm
  obtain ⟨R, hR⟩ : ∃ R, R = blksL es := ⟨_, rfl⟩
  rw [← hR]
  have HR : Hid ([] ++ blkF es ((nn + 7) / 8) (8 * 0) = R) := by rw [hR, hnn]; rfl
  clear hR hnn
  have ho0 := ownS_none w
  have hb0 := below1 w (.cells #[] 9)
  go_enter Tryz.func76, Tryz.ntmps76
  go_wp2
  go_loopg [3, 4] ((nn + 7) / 8) (fun gg u i wr => ∃ (k : Nat) (ss : List ByteArray), k + gg = (nn + 7) / 8 ∧ i = .int .i64 ((8 * k : Nat) : Int) ∧ Hid (ss ++ blkF es gg (8 * k) = R) ∧ ss.length = k ∧ OwnS wr w.heap.size u ss ∧ Below w.heap.size w wr)
  case atStart => exact ⟨0, [], by omega, rfl, HR, rfl, ho0, hb0⟩
  case round =>
    obtain ⟨k, ss, hkg, rfl, HB, hsl, ho, hb⟩ := hrel
    clear ho0 hb0 HR
    obtain ⟨q, hq⟩ : ∃ q, q = 8 * k := ⟨_, rfl⟩
    rw [← hq] at HB ⊢
    have HQ : Hid (q = 8 * k) := hq
    have HSL : Hid (ss.length = k) := hsl
    have HKG : Hid (k + gk = (nn + 7) / 8) := hkg
    clear hq hsl hkg
    by_cases hlt : q < nn
    · cases gk with
      | zero => exfalso; have := HQ.out; have := HKG.out; omega
      | succ gg =>
        obtain ⟨j, hj⟩ : ∃ j, j = min (q + 8) nn := ⟨_, rfl⟩
        have hj1 : q ≤ j := by omega
        have hj2 : j ≤ nn := by omega
        have HCC : Hid ((es.take j).drop q = chunk es q) := chunk_cut es q j (by rw [← HNN.out]; exact hj)
        have HCO : Hid (okL (chunk es q) = true) := chunk_ok HOK.out q
        have HCF : Hid (∀ e ∈ chunk es q, Fits e) := okL_fitsT HCO.out
        have HC0 : Hid (∀ W, RdE W (.slice a nn cap) es → Calls Tryz.prog 93 #[.slice a nn cap, .int .i64 q, .int .i64 (j : Int)] W fun e w' => ∃ u, e = .returned u ∧ (∀ W', RdE W' (.slice a nn cap) es → RdE W' u (chunk es q)) ∧ w' = W) := fun W h => by
          have := cut_any _ es q j W h hj1 (by rw [← HNN.out]; exact hj2)
          rwa [HCC.out] at this
        have HP : Hid (∀ W u, RdE W u (chunk es q) → Calls Tryz.prog 111 #[u] W fun e w' => ∃ u', e = .returned u' ∧ Own w' W.heap.size u' (packA (chunk es q)) ∧ Below W.heap.size W w') := fun W u h => by
          have := implPacked_any u _ W h HCF.out
          rwa [packL_ok HCO.out] at this
        have HB2 : Hid (ss ++ [⟨(packA (chunk es q)).toArray⟩] ++ blkF es gg (8 * (k + 1)) = R) := by
          have := HB.out
          rw [blkF_at] at this
          rw [List.append_assoc, show 8 * (k + 1) = q + 8 by have := HQ.out; omega]
          exact this
        have hjc : (q + 8 ≤ nn ∧ (j : Int) = (q : Int) + 8) ∨ (nn < q + 8 ∧ (j : Int) = (nn : Int)) := by omega
        clear HB HCC hj hj1 hj2
        generalize packA (chunk es q) = bs at HP HB2
        have hrr := hr.below hb
        rcases hjc with ⟨hjc, hje⟩ | ⟨hjc, hje⟩
        · have HC : Hid (∀ W, RdE W (.slice a nn cap) es → Calls Tryz.prog 93 #[.slice a nn cap, .int .i64 q, .int .i64 ((q : Int) + 8)] W fun e w' => ∃ u, e = .returned u ∧ (∀ W', RdE W' (.slice a nn cap) es → RdE W' u (chunk es q)) ∧ w' = W) := by rw [← hje]; exact HC0
          clear HC0 hje
          go_wp2_with fail
          refine (HC.out _ hrr).mono ?_
          rintro e w2 ⟨u2, rfl, hru, rfl⟩
          have hru2 := hru _ hrr
          go_wp2_with fail
          refine (HP.out _ _ hru2).mono ?_
          rintro e w4 ⟨u4, rfl, ho4, hb4⟩
          have hcv := conv_own ho4
          have hs4 := ho.below hb4
          have b4 := hb.trans (hb4.mono hb.size)
          clear hrr hru hru2 ho hb hb4 HC HP
          go_wp2_with (at_builtin; (refine wpList_append_txt1 rfl _ _ rfl w.heap.size w4.heap.size _ ss ⟨bs.toArray⟩ rfl rfl (hs4.below (below1 _ _)) (by simp) (by have := HSL.out; have := HKG.out; omega) (by have := b4.size; simp; omega) ?_))
          intro v5 w5 ho5 hg5
          have b5 := pushS_below hs4 (Nat.le_refl _) b4 b4.size hg5
          clear hg5 hs4 b4 ho4 hcv
          have HQ2 : Hid ((q : Int) + 8 = ((8 * (k + 1) : Nat) : Int)) := by have := HQ.out; unfold Hid; omega
          go_wp2
          go_roundg gg
          case rel => exact ⟨k + 1, ss ++ [⟨bs.toArray⟩], by have := HKG.out; omega, by rw [← HQ2.out], HB2, by rw [List.length_append, HSL.out]; rfl, ho5, b5⟩
          case measure => omega

        · have HC : Hid (∀ W, RdE W (.slice a nn cap) es → Calls Tryz.prog 93 #[.slice a nn cap, .int .i64 q, .int .i64 (nn : Int)] W fun e w' => ∃ u, e = .returned u ∧ (∀ W', RdE W' (.slice a nn cap) es → RdE W' u (chunk es q)) ∧ w' = W) := by rw [← hje]; exact HC0
          clear HC0 hje
          go_wp2_with fail
          refine (HC.out _ hrr).mono ?_
          rintro e w2 ⟨u2, rfl, hru, rfl⟩
          have hru2 := hru _ hrr
          go_wp2_with fail
          refine (HP.out _ _ hru2).mono ?_
          rintro e w4 ⟨u4, rfl, ho4, hb4⟩
          have hcv := conv_own ho4
          have hs4 := ho.below hb4
          have b4 := hb.trans (hb4.mono hb.size)
          clear hrr hru hru2 ho hb hb4 HC HP
          go_wp2_with (at_builtin; (refine wpList_append_txt1 rfl _ _ rfl w.heap.size w4.heap.size _ ss ⟨bs.toArray⟩ rfl rfl (hs4.below (below1 _ _)) (by simp) (by have := HSL.out; have := HKG.out; omega) (by have := b4.size; simp; omega) ?_))
          intro v5 w5 ho5 hg5
          have b5 := pushS_below hs4 (Nat.le_refl _) b4 b4.size hg5
          clear hg5 hs4 b4 ho4 hcv
          have HQ2 : Hid ((q : Int) + 8 = ((8 * (k + 1) : Nat) : Int)) := by have := HQ.out; unfold Hid; omega
          go_wp2
          go_roundg gg
          case rel => exact ⟨k + 1, ss ++ [⟨bs.toArray⟩], by have := HKG.out; omega, by rw [← HQ2.out], HB2, by rw [List.length_append, HSL.out]; rfl, ho5, b5⟩
          case measure => omega
    · have HE : Hid (ss = R) := by
        have h0 : gk = 0 := by have := HKG.out; have := HQ.out; omega
        have := HB.out
        rw [h0, blkF, List.append_nil] at this
        exact this
      have hke : ¬ (q : Int) < (nn : Int) := by omega
      clear HB
      go_wp2
      go_ret
      exact ⟨_, rfl, by rw [← HE.out]; exact ho, hb⟩
def mw (M j : Nat) : Nat := M / 2 ^ (64 * j) % 2 ^ 64
def mset (M n : Nat) : Nat := M ||| 2 ^ n
theorem mw_lt (M j : Nat) : mw M j < 18446744073709551616 := Nat.mod_lt _ (by decide)
theorem mw_bit (M j i : Nat) : (mw M j).testBit i = (decide (i < 64) && M.testBit (64 * j + i)) := by
  unfold mw
  rw [Nat.testBit_mod_two_pow, Nat.testBit_div_two_pow, Nat.add_comm]
theorem mset_bit (M n i : Nat) : (mset M n).testBit i = (M.testBit i || decide (n = i)) := by
  unfold mset
  rw [Nat.testBit_or, Nat.testBit_two_pow]
theorem mset_lt {M n : Nat} (h : M < 2 ^ 256) (hn : n < 256) : mset M n < 2 ^ 256 := Nat.or_lt_two_pow h (Nat.pow_lt_pow_right (by omega) hn)
theorem mw_set_at {M n : Nat} : mw (mset M n) (n / 64) = mw M (n / 64) ||| 2 ^ (n % 64) := by
  apply Nat.eq_of_testBit_eq
  intro i
  rw [mw_bit, mset_bit, Nat.testBit_or, mw_bit, Nat.testBit_two_pow]
  by_cases hi : i < 64
  · simp only [hi, decide_true, Bool.true_and]
    congr 1
    apply decide_eq_decide.2
    omega
  · have : ¬ n % 64 = i := by omega
    simp [hi, this]
theorem mw_set_ne {M n j : Nat} (h : n / 64 ≠ j) : mw (mset M n) j = mw M j := by
  apply Nat.eq_of_testBit_eq
  intro i
  rw [mw_bit, mset_bit, mw_bit]
  by_cases hi : i < 64
  · have : ¬ n = 64 * j + i := by omega
    simp [this]
  · simp [hi]
theorem mw_ext {M N : Nat} (hM : M < 2 ^ 256) (hN : N < 2 ^ 256) (h0 : mw M 0 = mw N 0) (h1 : mw M 1 = mw N 1) (h2 : mw M 2 = mw N 2) (h3 : mw M 3 = mw N 3) : M = N := by
  apply Nat.eq_of_testBit_eq
  intro i
  by_cases hi : i < 256
  · have hj : ∀ j, mw M j = mw N j → i / 64 = j → M.testBit i = N.testBit i := by
      intro j hj e
      have := congrArg (fun x => x.testBit (i % 64)) hj
      simp only [mw_bit] at this
      have h64 : i % 64 < 64 := Nat.mod_lt _ (by omega)
      have e2 : 64 * j + i % 64 = i := by omega
      rw [e2] at this
      simpa [h64] using this
    have : i / 64 = 0 ∨ i / 64 = 1 ∨ i / 64 = 2 ∨ i / 64 = 3 := by omega
    rcases this with e | e | e | e
    · exact hj 0 h0 e
    · exact hj 1 h1 e
    · exact hj 2 h2 e
    · exact hj 3 h3 e
  · rw [Nat.testBit_lt_two_pow (Nat.lt_of_lt_of_le hM (Nat.pow_le_pow_right (by omega) (by omega))), Nat.testBit_lt_two_pow (Nat.lt_of_lt_of_le hN (Nat.pow_le_pow_right (by omega) (by omega)))]
theorem mset_same {M n : Nat} : M = mset M n ↔ M.testBit n = true := by
  constructor
  · intro h; rw [h, mset_bit]; simp
  · intro h
    apply Nat.eq_of_testBit_eq
    intro i
    rw [mset_bit]
    by_cases e : n = i
    · subst e; simp [h]
    · simp [e]
def mOf (ns : List Int) : Nat := ns.foldl (fun M n => mset M n.toNat) 0
def okM (ns : List Int) : Prop := ∀ n ∈ ns, 0 ≤ n ∧ n < 256
theorem mF_bit (ns : List Int) (h : okM ns) : ∀ (M i : Nat), (ns.foldl (fun M n => mset M n.toNat) M).testBit i = true ↔ M.testBit i = true ∨ (i : Int) ∈ ns := by
  induction ns with
  | nil => intro M i; simp
  | cons n r ih =>
    intro M i
    have hn := h n List.mem_cons_self
    rw [List.foldl_cons, ih (fun x hx => h x (List.mem_cons_of_mem _ hx)), mset_bit, List.mem_cons, Bool.or_eq_true, decide_eq_true_eq]
    constructor
    · rintro ((h | h) | h)
      · exact .inl h
      · exact .inr (.inl (by omega))
      · exact .inr (.inr h)
    · rintro (h | h | h)
      · exact .inl (.inl h)
      · exact .inl (.inr (by omega))
      · exact .inr h
theorem mOf_bit {ns : List Int} (h : okM ns) (i : Nat) : (mOf ns).testBit i = true ↔ (i : Int) ∈ ns := by
  unfold mOf
  rw [mF_bit ns h]
  simp
theorem mF_lt (ns : List Int) (h : okM ns) : ∀ M, M < 2 ^ 256 → ns.foldl (fun M n => mset M n.toNat) M < 2 ^ 256 := by
  induction ns with
  | nil => intro M hM; exact hM
  | cons n r ih =>
    intro M hM
    have hn := h n List.mem_cons_self
    rw [List.foldl_cons]
    exact ih (fun x hx => h x (List.mem_cons_of_mem _ hx)) _ (mset_lt hM (by omega))
theorem mOf_lt {ns : List Int} (h : okM ns) : mOf ns < 2 ^ 256 := mF_lt ns h 0 (by decide)
theorem rise_ext : ∀ (a b : List Int), a.Pairwise (· < ·) → b.Pairwise (· < ·) → (∀ x, x ∈ a ↔ x ∈ b) → a = b
  | [], b, _, _, h => by
    cases b with
    | nil => rfl
    | cons y s => have := (h y).2 List.mem_cons_self; cases this
  | x :: r, [], _, _, h => by have := (h x).1 List.mem_cons_self; cases this
  | x :: r, y :: s, ha, hb, h => by
    rw [List.pairwise_cons] at ha hb
    have hxy : x = y := by
      have h1 := (h x).1 List.mem_cons_self
      have h2 := (h y).2 List.mem_cons_self
      rcases List.mem_cons.1 h1 with e | h1
      · exact e
      · rcases List.mem_cons.1 h2 with e | h2
        · exact e.symm
        · have := hb.1 x h1; have := ha.1 y h2; omega
    subst hxy
    rw [rise_ext r s ha.2 hb.2]
    intro z
    have := h z
    rw [List.mem_cons, List.mem_cons] at this
    constructor
    · intro hz
      rcases this.1 (.inr hz) with e | e
      · have := ha.1 z hz; omega
      · exact e
    · intro hz
      rcases this.2 (.inr hz) with e | e
      · have := hb.1 z hz; omega
      · exact e
def bitsOf (M : Nat) : Nat → Nat → List Int
  | 0, _ => []
  | g + 1, k => if M.testBit k = true then (k : Int) :: bitsOf M g (k + 1) else bitsOf M g (k + 1)
theorem bitsOf_mem (M : Nat) : ∀ (g k : Nat) (x : Int), x ∈ bitsOf M g k ↔ ∃ i : Nat, k ≤ i ∧ i < k + g ∧ x = (i : Int) ∧ M.testBit i = true
  | 0, k, x => by rw [bitsOf]; constructor; (intro h; cases h); (rintro ⟨i, h1, h2, _⟩; omega)
  | g + 1, k, x => by
    rw [bitsOf]
    have ih := bitsOf_mem M g (k + 1) x
    have key : (∃ i : Nat, k ≤ i ∧ i < k + (g + 1) ∧ x = (i : Int) ∧ M.testBit i = true) ↔ (x = (k : Int) ∧ M.testBit k = true) ∨ x ∈ bitsOf M g (k + 1) := by
      rw [ih]
      constructor
      · rintro ⟨i, h1, h2, h3, h4⟩
        by_cases e : i = k
        · subst e; exact .inl ⟨h3, h4⟩
        · exact .inr ⟨i, by omega, by omega, h3, h4⟩
      · rintro (⟨h1, h2⟩ | ⟨i, h1, h2, h3, h4⟩)
        · exact ⟨k, by omega, by omega, h1, h2⟩
        · exact ⟨i, by omega, by omega, h3, h4⟩
    rw [key]
    by_cases hb : M.testBit k = true
    · rw [if_pos hb, List.mem_cons]; simp [hb]
    · rw [if_neg hb]; simp [hb]
theorem bitsOf_rise (M : Nat) : ∀ (g k : Nat), (bitsOf M g k).Pairwise (· < ·)
  | 0, k => by rw [bitsOf]; exact List.Pairwise.nil
  | g + 1, k => by
    rw [bitsOf]
    split
    · refine List.pairwise_cons.2 ⟨fun x hx => ?_, bitsOf_rise M g (k + 1)⟩
      obtain ⟨i, h1, h2, rfl, _⟩ := (bitsOf_mem M g (k + 1) x).1 hx
      omega
    · exact bitsOf_rise M g (k + 1)
theorem bitsOf_mOf {ns : List Int} (h : okM ns) (hr : ns.Pairwise (· < ·)) : bitsOf (mOf ns) 256 0 = ns := by
  refine rise_ext _ _ (bitsOf_rise _ _ _) hr fun x => ?_
  rw [bitsOf_mem]
  constructor
  · rintro ⟨i, _, _, rfl, hb⟩
    exact (mOf_bit h i).1 hb
  · intro hx
    have := h x hx
    refine ⟨x.toNat, by omega, by omega, by omega, (mOf_bit h _).2 ?_⟩
    rw [Int.toNat_of_nonneg this.1]
    exact hx
def riseFrom : Int → List Int → Bool
  | _, [] => true
  | a, n :: r => !(decide (n ≤ a) || decide (256 ≤ n)) && riseFrom n r
theorem riseFrom_iff : ∀ (ns : List Int) (a : Int), riseFrom a ns = true ↔ (∀ n ∈ ns, a < n ∧ n < 256) ∧ ns.Pairwise (· < ·)
  | [], a => by simp [riseFrom]
  | n :: r, a => by
    rw [riseFrom, Bool.and_eq_true, riseFrom_iff r n, List.pairwise_cons]
    simp only [Bool.not_eq_true', Bool.or_eq_false_iff, decide_eq_false_iff_not, List.mem_cons]
    constructor
    · rintro ⟨⟨h1, h2⟩, h3, h4⟩
      refine ⟨?_, fun x hx => (h3 x hx).1, h4⟩
      rintro x (rfl | hx)
      · omega
      · have := h3 x hx; omega
    · rintro ⟨h1, h2, h3⟩
      have := h1 n (.inl rfl)
      refine ⟨⟨by omega, by omega⟩, fun x hx => ⟨h2 x hx, (h1 x (.inr hx)).2⟩, h3⟩
def mBits (ns : List Int) : Nat := if riseFrom (-1) ns = true then mOf ns else 0
theorem mBits_eq {ns bs : List Int} (h : okM bs) (hr : bs.Pairwise (· < ·)) (h0 : bs ≠ []) : mBits ns = mOf bs ↔ ns = bs := by
  constructor
  · intro e
    unfold mBits at e
    split at e
    · rename_i hn
      rw [riseFrom_iff] at hn
      have hn1 : okM ns := fun n hm => ⟨by have := (hn.1 n hm).1; omega, (hn.1 n hm).2⟩
      rw [← bitsOf_mOf hn1 hn.2, e, bitsOf_mOf h hr]
    · exfalso
      cases bs with
      | nil => exact h0 rfl
      | cons b r =>
        have hb := h b List.mem_cons_self
        have := (mOf_bit h b.toNat).2 (by rw [Int.toNat_of_nonneg hb.1]; exact List.mem_cons_self)
        rw [← e] at this
        simp at this
  · rintro rfl
    unfold mBits
    rw [if_pos]
    rw [riseFrom_iff]
    exact ⟨fun n hm => ⟨by have := (h n hm).1; omega, (h n hm).2⟩, hr⟩
theorem putI_rise {ns : List Int} (h : ns.Pairwise (· < ·)) (n : Int) : (putI ns n).Pairwise (· < ·) := by
  unfold putI
  split
  · exact h
  · rename_i hne
    rw [List.pairwise_append, List.pairwise_cons]
    have hlt : ∀ x ∈ ns.take (atI ns n), x < n := by
      intro x hx
      obtain ⟨i, hi, rfl⟩ := List.getElem_of_mem hx
      rw [List.length_take] at hi
      rw [List.getElem_take]
      exact atI_lo ns n i (by omega) (by omega)
    have hgt : ∀ x ∈ ns.drop (atI ns n), n < x := by
      intro x hx
      obtain ⟨i, hi, rfl⟩ := List.getElem_of_mem hx
      rw [List.length_drop] at hi
      rw [List.getElem_drop]
      have h0 : atI ns n < ns.length := by omega
      have h1 := atI_stop ns n h0
      have h2 : ns[atI ns n] ≠ n := by
        intro e
        exact hne (by rw [List.getElem?_eq_getElem h0, e])
      by_cases hz : i = 0
      · subst hz; simp only [Nat.add_zero]; omega
      · have := List.pairwise_iff_getElem.1 h (atI ns n) (atI ns n + i) h0 (by omega) (by omega)
        omega
    refine ⟨h.sublist (List.take_sublist _ _), ⟨hgt, h.sublist (List.drop_sublist _ _)⟩, ?_⟩
    intro a ha b hb
    rcases List.mem_cons.1 hb with rfl | hb
    · exact hlt a ha
    · have := hlt a ha; have := hgt b hb; omega
theorem bitsTo_rise (ms : List Int) : ∀ {ns : List Int}, ns.Pairwise (· < ·) → (bitsTo ns ms).Pairwise (· < ·) := by
  unfold bitsTo
  induction ms with
  | nil => intro ns h; exact h
  | cons m r ih => intro ns h; rw [List.foldl_cons]; exact ih (putI_rise h m)
theorem bitsF_rise (es : List Ent) : ∀ {ns : List Int}, ns.Pairwise (· < ·) → (es.foldl (fun b e => bitsTo b (marksL e.key)) ns).Pairwise (· < ·) := by
  induction es with
  | nil => intro ns h; exact h
  | cons e r ih => intro ns h; rw [List.foldl_cons]; exact ih (bitsTo_rise _ h)
theorem bitsL_rise (es : List Ent) : (bitsL es).Pairwise (· < ·) := bitsF_rise es List.Pairwise.nil
theorem bitsL_okM (es : List Ent) : okM (bitsL es) := by
  intro n hn
  obtain ⟨e, _, h⟩ := (bitsL_mem es n).1 hn
  rcases (marksL_mem e.key n).1 h with rfl | rfl
  · exact mk2_in e.key
  · exact mk1_in e.key
theorem bitsL_ne {es : List Ent} (h : es ≠ []) : bitsL es ≠ [] := by
  cases es with
  | nil => exact absurd rfl h
  | cons e r =>
    intro hn
    have := (bitsL_mem (e :: r) (mk1 e.key)).2 ⟨e, List.mem_cons_self, (marksL_mem _ _).2 (.inr rfl)⟩
    rw [hn] at this
    cases this
def mkey (M : Nat) (key : ByteArray) : Nat := mset (mset M (dig 1 key.data.toList % 256)) (dig 1 (key.data.toList ++ [42]) % 256)
theorem mkey_bit (M : Nat) (key : ByteArray) (i : Nat) : (mkey M key).testBit i = true ↔ M.testBit i = true ∨ (i : Int) ∈ marksL key := by
  unfold mkey
  rw [mset_bit, mset_bit, marksL_mem]
  unfold mk1 mk2
  simp only [Bool.or_eq_true, decide_eq_true_eq]
  constructor
  · rintro ((h | h) | h)
    · exact .inl h
    · exact .inr (.inr (by omega))
    · exact .inr (.inl (by omega))
  · rintro (h | h | h)
    · exact .inl (.inl h)
    · exact .inr (by omega)
    · exact .inl (.inr (by omega))
def mKeys (es : List Ent) : Nat := es.foldl (fun M e => mkey M e.key) 0
theorem mKF_bit (es : List Ent) : ∀ (M i : Nat), (es.foldl (fun M e => mkey M e.key) M).testBit i = true ↔ M.testBit i = true ∨ ∃ e ∈ es, (i : Int) ∈ marksL e.key := by
  induction es with
  | nil => intro M i; simp
  | cons e r ih =>
    intro M i
    rw [List.foldl_cons, ih, mkey_bit]
    constructor
    · rintro ((h | h) | ⟨y, hy, h⟩)
      · exact .inl h
      · exact .inr ⟨e, List.mem_cons_self, h⟩
      · exact .inr ⟨y, List.mem_cons_of_mem _ hy, h⟩
    · rintro (h | ⟨y, hy, h⟩)
      · exact .inl (.inl h)
      · rcases List.mem_cons.1 hy with rfl | hy
        · exact .inl (.inr h)
        · exact .inr ⟨y, hy, h⟩
theorem mKeys_eq (es : List Ent) : mKeys es = mOf (bitsL es) := by
  apply Nat.eq_of_testBit_eq
  intro i
  rw [Bool.eq_iff_iff, mOf_bit (bitsL_okM es), bitsL_mem]
  unfold mKeys
  rw [mKF_bit]
  simp
theorem mKeys_lt (es : List Ent) : mKeys es < 2 ^ 256 := by rw [mKeys_eq]; exact mOf_lt (bitsL_okM es)
theorem bits_of_keys (es : List Ent) : bitsOf (mKeys es) 256 0 = bitsL es := by rw [mKeys_eq, bitsOf_mOf (bitsL_okM es) (bitsL_rise es)]
theorem mBits_keys {ns : List Int} {es : List Ent} (h : es ≠ []) : mBits ns = mKeys es ↔ ns = bitsL es := by rw [mKeys_eq]; exact mBits_eq (bitsL_okM es) (bitsL_rise es) (bitsL_ne h)
theorem mBits_lt (ns : List Int) : mBits ns < 2 ^ 256 := by
  unfold mBits
  split
  · rename_i h
    rw [riseFrom_iff] at h
    exact mOf_lt fun n hm => ⟨by have := (h.1 n hm).1; omega, (h.1 n hm).2⟩
  · decide
end Go.Proofs.YtbefmbjlogkmbaaGreat
