/- The contracts of the program's unpackedBlocks and packedBlocks. -/
import Derived.Test.YthaobdknpgnapaaTabSpec3
import Derived.Test.YthaobdknpgnapaaTabSpec5
import Derived.Test.YthaobdknpgnapaaEntImplOk
import Derived.Test.YthaobdknpgnapaaCurEnts
import Derived.Test.YthaobdknpgnapaaEntJoin
import Derived.Test.YthaobdknpgnapaaPackImpl
namespace Go.Proofs.Ythaobdknpgnapaa
open Go.RowKit
/-- All entries of a table's blocks, nothing where they are not right. -/
def allI (T : Tbl) : List Ent × Bool := if (allL T).2 = true then allL T else ([], false)
theorem allI_no {T : Tbl} (h : allL T = ([], false)) : allI T = ([], false) := by unfold allI; rw [h]; rfl
theorem allI_is {T : Tbl} {es : List Ent} (h : allL T = (es, okL es)) : allI T = if okL es = true then (es, true) else ([], false) := by
  unfold allI
  rw [h]
  simp only
  split
  · rename_i h2; rw [h2]
  · rfl
set_option maxHeartbeats 4000000 in
set_option maxRecDepth 100000 in
theorem unpackedBlocks_any (T : Tbl) (vk : Value) (w : World) (hr : RdS w vk T.blocks) (hz : ∀ s ∈ T.blocks, s.size ≤ 1000000000) :
    Calls Try.prog 98 #[vk] w fun e w' => UnpPost w (allI T) e w' := by
  obtain ⟨ak, ck, hvk, hl, hm, _⟩ := id hr
  obtain ⟨kn, hkn⟩ : ∃ kn, kn = T.blocks.length := ⟨_, rfl⟩
  have HKN : Hid (kn = T.blocks.length) := hkn
  rw [← hkn] at hl hvk
  subst hvk
  clear hkn
  unfold maxLen at hm
  have HZ : Hid (∀ s ∈ T.blocks, s.size ≤ 1000000000) := hz
  clear hz
  obtain ⟨F, hF⟩ : ∃ F, F = allI T := ⟨_, rfl⟩
  rw [← hF]
  have HF : Hid (F = allI T) := hF
  clear hF
  by_cases hbad : kn < 1 ∨ 40 < kn
  · have RES : Hid (F = ([], false)) := by unfold Hid; rw [HF.out]; exact allI_no (by unfold allL; rw [← HKN.out, if_pos hbad])
    have hoE := ownE_none w
    rcases hbad with hb1 | hb1
    · have hd1 : decide ((kn : Int) < 1) = true := by simp; omega
      go_enter Try.func98, Try.ntmps98
      go_wp2
      go_ret2
      exact unpPost_no RES.out hoE (Nat.le_refl _) (below1 _ _)
    · have hd1 : decide ((kn : Int) < 1) = false := by simp; omega
      have hd2 : decide (40 < (kn : Int)) = true := by simp; omega
      go_enter Try.func98, Try.ntmps98
      go_wp2
      go_ret2
      exact unpPost_no RES.out hoE (Nat.le_refl _) (below1 _ _)
  obtain ⟨res, hres⟩ : ∃ res, res = allF T.blocks [] := ⟨_, rfl⟩
  have HR0 : Hid (allF (T.blocks.drop 0) [] = res) := by rw [List.drop_zero]; exact hres.symm
  have R0 : Hid (res = none → F = ([], false)) := fun h => by rw [HF.out]; exact allI_no (by unfold allL; rw [← HKN.out, if_neg hbad, ← hres, h])
  have R1 : Hid (∀ es, res = some es → F = if okL es = true then (es, true) else ([], false)) := fun es h => by rw [HF.out]; exact allI_is (by unfold allL; rw [← HKN.out, if_neg hbad, ← hres, h])
  clear hres HF
  have hk1 : 1 ≤ kn := by omega
  have hk2 : kn ≤ 40 := by omega
  have hd1 : decide ((kn : Int) < 1) = false := by simp; omega
  have hd2 : decide (40 < (kn : Int)) = false := by simp; omega
  have hoE := ownE_none w
  have b1 := below1 w (.cells #[] 26)
  clear hbad
  go_enter Try.func98, Try.ntmps98
  go_wp2
  go_loopw [4, 21] (fun u i wr => ∃ (k : Nat) (es : List Ent), k ≤ kn ∧ i = .int .i64 k ∧ Hid (allF (T.blocks.drop k) es = res) ∧ es.length ≤ 8 * k ∧ Hid (∀ x ∈ es, Fits x) ∧ OwnE wr w.heap.size u es ∧ Below w.heap.size w wr) (fun _ i _ => kn - (intOf i).toNat)
  case atStart => exact ⟨0, [], Nat.zero_le _, rfl, HR0, Nat.zero_le _, (fun x hx => by cases hx), hoE, b1⟩
  case round =>
    obtain ⟨k, es, hk, rfl, HA, hel, HFT, ho, hb⟩ := hrel
    clear hoE b1 HR0
    by_cases hlt : k < kn
    · have hltb : k < T.blocks.length := by rw [← HKN.out]; exact hlt
      obtain ⟨b, off, rfl, hcs⟩ := (hr.below hb).at k hltb
      obtain ⟨s, hs⟩ : ∃ s, s = T.blocks[k] := ⟨_, rfl⟩
      rw [← hs] at hcs
      have hsz : s.size ≤ 1000000000 := by rw [hs]; exact HZ.out _ (List.getElem_mem hltb)
      have HA2 : Hid (allF (s :: T.blocks.drop (k + 1)) es = res) := by rw [hs, ← List.drop_eq_getElem_cons hltb]; exact HA
      clear hs HA
      have hcb := conv_bytes wr s
      have hrd := bytes_rd wr s (by unfold maxLen; omega)
      have hbb := bytes_below wr s
      generalize Lib.bytesWorld wr 5 s = W at hcb hrd hbb
      generalize grownCap wr s.size 0 5 = c0 at hcb hrd
      obtain ⟨F2, hF2⟩ : ∃ F2, F2 = unpI s.data.toList := ⟨_, rfl⟩
      have HCU : Hid (Calls Try.prog 110 #[.slice (some ⟨wr.heap.size, 0, none⟩) s.size c0] W fun e w' => UnpPost W F2 e w') := by rw [hF2]; exact implUnpacked_any _ _ _ hrd
      have HFF : Hid (∀ x ∈ F2.1, Fits x) := by rw [hF2]; exact unpI_fits _
      have HNO : Hid (¬ (F2.2 = true ∧ 1 ≤ F2.1.length ∧ F2.1.length ≤ 8) → F = ([], false)) := fun h => R0.out (by rw [← HA2.out]; exact allF_no (by rw [← hF2]; exact h))
      have HGO : Hid (F2.2 = true ∧ 1 ≤ F2.1.length ∧ F2.1.length ≤ 8 → allF (T.blocks.drop (k + 1)) (es ++ F2.1) = res) := fun h => by rw [← HA2.out, allF_go (by rw [← hF2]; exact h), ← hF2]
      clear hF2 hrd HA2
      obtain ⟨l, is⟩ := F2
      have ho2 := ho.below hbb
      have b2 := hb.trans (hbb.mono hb.size)
      clear ho hb hbb
      go_wp2_with fail
      refine HCU.out.mono ?_
      rintro e w3 ⟨ul, rfl, hl3, hb3⟩
      simp only at hl3 HNO HGO HFF ⊢
      have ho3 := ho2.below hb3
      have b3 := b2.trans (hb3.mono b2.size)
      clear ho2 b2 hb3 HCU hcb hcs
      obtain ⟨al, cl, hvl, hl1, hl2, _⟩ := id hl3.rd
      obtain ⟨ln, hln⟩ : ∃ ln, ln = l.length := ⟨_, rfl⟩
      rw [← hln] at hvl hl1 HNO HGO
      have HLN : Hid (ln = l.length) := hln
      subst hvl
      unfold maxLen at hl2
      clear hln
      cases is with
      | false =>
        have RES : Hid (F = ([], false)) := HNO.out (by simp)
        go_wp2
        go_ret2
        exact unpPost_no RES.out (ownE_new w3) b3.size (b3.alloc b3.size _)
      | true =>
        by_cases q1 : ln < 1
        · skip
          have RES : Hid (F = ([], false)) := HNO.out (by omega)
          have q1d : decide ((ln : Int) < 1) = true := by simp; omega
          go_wp2
          go_ret2
          exact unpPost_no RES.out (ownE_new w3) b3.size (b3.alloc b3.size _)
        · have q1d : decide ((ln : Int) < 1) = false := by simp; omega
          by_cases q2 : 8 < ln
          · skip
            have RES : Hid (F = ([], false)) := HNO.out (by omega)
            have q2d : decide (8 < (ln : Int)) = true := by simp; omega
            go_wp2
            go_ret2
            exact unpPost_no RES.out (ownE_new w3) b3.size (b3.alloc b3.size _)
          · skip
            have q2d : decide (8 < (ln : Int)) = false := by simp; omega
            have HA4 : Hid (allF (T.blocks.drop (k + 1)) (es ++ l) = res) := HGO.out ⟨rfl, by omega, by omega⟩
            have HFT4 : Hid (∀ x ∈ es ++ l, Fits x) := fun x hx => by
              rcases List.mem_append.1 hx with h | h
              · exact HFT.out x h
              · exact HFF.out x h
            have hel4 : (es ++ l).length ≤ 8 * (k + 1) := by rw [List.length_append, ← HLN.out]; omega
            go_wp2_with (at_builtin; (refine wpList_append_ents rfl _ _ rfl w.heap.size _ _ es l rfl rfl ho3 hl3.rd (by rw [← HLN.out]; omega) b3.size ?_))
            intro v5 w5 ho5 hg5
            have b5 := b3.grown hg5 b3.size (fun j hj => (World.ownsRow.lt ho3 j hj).1)
            clear ho3 b3 hl3 hg5
            go_wp2
            go_roundw
            case rel => exact ⟨k + 1, es ++ l, by omega, by go_num, HA4, hel4, HFT4, ho5, b5⟩
            case measure => simp [intOf]; omega
    · skip
      have hke : k = kn := by omega
      have RES : Hid (F = if okL es = true then (es, true) else ([], false)) := R1.out es (by have := HA.out; rw [hke, HKN.out, List.drop_eq_nil_of_le (Nat.le_refl _), allF] at this; exact this.symm)
      have hlt2 : ¬ (k : Int) < (kn : Int) := by omega
      clear hke HA
      have HCE := implEntriesOk_any u4 es wr ho.rd HFT.out
      cases hok : okL es with
      | false =>
        rw [hok] at HCE
        have RES2 : Hid (F = ([], false)) := by have := RES.out; rw [hok] at this; exact this
        have HC2 : Hid (Calls Try.prog 14 #[u4] wr fun e w' => e = .returned (.bool false) ∧ Below wr.heap.size wr w') := HCE
        clear hok HCE RES
        go_wp2_with fail
        refine HC2.out.mono ?_
        rintro e w3 ⟨rfl, hb3⟩
        have b3 := hb.trans (hb3.mono hb.size)
        clear HC2
        go_wp2
        go_ret2
        exact unpPost_no RES2.out (ownE_new w3) b3.size (b3.alloc b3.size _)
      | true =>
        rw [hok] at HCE
        have RES2 : Hid (F = (es, true)) := by have := RES.out; rw [hok] at this; exact this
        have HC2 : Hid (Calls Try.prog 14 #[u4] wr fun e w' => e = .returned (.bool true) ∧ Below wr.heap.size wr w') := HCE
        clear hok HCE RES
        go_wp2_with fail
        refine HC2.out.mono ?_
        rintro e w3 ⟨rfl, hb3⟩
        have ho3 := ho.below hb3
        have b3 := hb.trans (hb3.mono hb.size)
        clear HC2
        go_wp2
        go_ret2
        exact unpPost_yes RES2.out ho3 (Nat.le_refl _) b3
theorem wpList_append_txt1 {w : World} {ops : Array Oper} {rest : List Oper} {o : Oper} {a : Act} {Q : Exit → Act → World → Prop} (hgd : o.guard = none) (s x : Operand)
    (ho : o.op = .call { callee := .builtin .append, args := #[s, x], argTypes := #[39, 39] }) (base bP : Nat) (v : Value) (ys : List ByteArray) (y : ByteArray) (hs : a.eval s = v) (hx : a.eval x = .slice (some ⟨bP, 0, none⟩) 1 1) (hown : OwnS w base v ys) (hc : w.cell? ⟨bP, 0, none⟩ = some (.string y)) (hl : ys.length ≤ 1000000) (hbase : base ≤ w.heap.size)
    (h : ∀ v' w', OwnS w' base v' (ys ++ [y]) → w.grownBy w' v.ownBlock → wpList Try.prog ops Q rest (a.put o.dst v') w') : wpList Try.prog ops Q (o :: rest) a w := by
  refine wpList_plain hgd fun K hK => ?_
  obtain ⟨v', w', hrun, r1, r2⟩ := run_append_txt1 o.type hown hc hl hbase
  unfold Oper.wp
  simp [execOp, ho, resolve, invoke, builtin, hs, hx, hrun, Result.andThen]
  exact hK _ _ (h v' w' r1 r2)
theorem chunk_cut (es : List Ent) (i j : Nat) (hj : j = min (i + 8) es.length) : (es.take j).drop i = chunk es i := by
  unfold chunk
  have : es.take j = es.take (i + 8) := by
    rw [hj]
    by_cases h : i + 8 ≤ es.length
    · rw [Nat.min_eq_left h]
    · rw [Nat.min_eq_right (by omega), List.take_of_length_le (Nat.le_refl _), List.take_of_length_le (by omega)]
  rw [this, List.drop_take]
  congr 1
  omega
set_option maxHeartbeats 4000000 in
set_option maxRecDepth 100000 in
theorem packedBlocks_any (v : Value) (es : List Ent) (w : World) (hr : RdE w v es) (hok : okL es = true) :
    Calls Try.prog 59 #[v] w fun e w' => ∃ u, e = .returned u ∧ OwnS w' w.heap.size u (blksL es) ∧ Below w.heap.size w w' := by
  have hlen := okL_len hok
  have HF : Hid (∀ e ∈ es, Fits e) := okL_fitsT hok
  have HOK : Hid (okL es = true) := hok
  clear hok
  obtain ⟨a, cap, hv, hl, hm, _⟩ := id hr
  obtain ⟨nn, hnn⟩ : ∃ nn, nn = es.length := ⟨_, rfl⟩
  have HNN : Hid (nn = es.length) := hnn
  rw [← hnn] at hv hl hlen
  subst hv
  unfold maxLen at hm
  obtain ⟨R, hR⟩ : ∃ R, R = blksL es := ⟨_, rfl⟩
  rw [← hR]
  have HR : Hid ([] ++ blkF es ((nn + 7) / 8) (8 * 0) = R) := by rw [hR, hnn]; rfl
  clear hR hnn
  have ho0 := ownS_none w
  have hb0 := below1 w (.cells #[] 9)
  go_enter Try.func59, Try.ntmps59
  go_wp2
  go_loopg [3, 4] ((nn + 7) / 8) (fun gg u i wr => ∃ (k : Nat) (ss : List ByteArray), k + gg = (nn + 7) / 8 ∧ i = .int .i64 ((8 * k : Nat) : Int) ∧ Hid (ss ++ blkF es gg (8 * k) = R) ∧ ss.length = k ∧ OwnS wr w.heap.size u ss ∧ Below w.heap.size w wr)
  case atStart => exact ⟨0, [], by omega, rfl, HR, rfl, ho0, hb0⟩
  case round =>
    obtain ⟨k, ss, hkg, rfl, HB, hsl, ho, hb⟩ := hrel
    clear ho0 hb0 HR
    obtain ⟨q, hq⟩ : ∃ q, q = 8 * k := ⟨_, rfl⟩
    rw [← hq] at HB ⊢
    have HQ : Hid (q = 8 * k) := hq
    have HSL : Hid (ss.length = k) := hsl
    have HKG : Hid (k + gk = (nn + 7) / 8) := hkg
    clear hq hsl hkg
    by_cases hlt : q < nn
    · cases gk with
      | zero => exfalso; have := HQ.out; have := HKG.out; omega
      | succ gg =>
        obtain ⟨j, hj⟩ : ∃ j, j = min (q + 8) nn := ⟨_, rfl⟩
        have hj1 : q ≤ j := by omega
        have hj2 : j ≤ nn := by omega
        have HCC : Hid ((es.take j).drop q = chunk es q) := chunk_cut es q j (by rw [← HNN.out]; exact hj)
        have HCO : Hid (okL (chunk es q) = true) := chunk_ok HOK.out q
        have HCF : Hid (∀ e ∈ chunk es q, Fits e) := okL_fitsT HCO.out
        have HC0 : Hid (∀ W, RdE W (.slice a nn cap) es → Calls Try.prog 47 #[.slice a nn cap, .int .i64 q, .int .i64 (j : Int)] W fun e w' => ∃ u, e = .returned u ∧ (∀ W', RdE W' (.slice a nn cap) es → RdE W' u (chunk es q)) ∧ w' = W) := fun W h => by
          have := cut_any _ es q j W h hj1 (by rw [← HNN.out]; exact hj2)
          rwa [HCC.out] at this
        have HP : Hid (∀ W u, RdE W u (chunk es q) → Calls Try.prog 90 #[u] W fun e w' => ∃ u', e = .returned u' ∧ Own w' W.heap.size u' (packA (chunk es q)) ∧ Below W.heap.size W w') := fun W u h => by
          have := implPacked_any u _ W h HCF.out
          rwa [packL_ok HCO.out] at this
        have HB2 : Hid (ss ++ [⟨(packA (chunk es q)).toArray⟩] ++ blkF es gg (8 * (k + 1)) = R) := by
          have := HB.out
          rw [blkF_at] at this
          rw [List.append_assoc, show 8 * (k + 1) = q + 8 by have := HQ.out; omega]
          exact this
        have hjc : (q + 8 ≤ nn ∧ (j : Int) = (q : Int) + 8) ∨ (nn < q + 8 ∧ (j : Int) = (nn : Int)) := by omega
        clear HB HCC hj hj1 hj2
        generalize packA (chunk es q) = bs at HP HB2
        have hrr := hr.below hb
        rcases hjc with ⟨hjc, hje⟩ | ⟨hjc, hje⟩
        · have HC : Hid (∀ W, RdE W (.slice a nn cap) es → Calls Try.prog 47 #[.slice a nn cap, .int .i64 q, .int .i64 ((q : Int) + 8)] W fun e w' => ∃ u, e = .returned u ∧ (∀ W', RdE W' (.slice a nn cap) es → RdE W' u (chunk es q)) ∧ w' = W) := by rw [← hje]; exact HC0
          clear HC0 hje
          go_wp2_with fail
          refine (HC.out _ hrr).mono ?_
          rintro e w2 ⟨u2, rfl, hru, rfl⟩
          have hru2 := hru _ hrr
          go_wp2_with fail
          refine (HP.out _ _ hru2).mono ?_
          rintro e w4 ⟨u4, rfl, ho4, hb4⟩
          have hcv := conv_own ho4
          have hs4 := ho.below hb4
          have b4 := hb.trans (hb4.mono hb.size)
          clear hrr hru hru2 ho hb hb4 HC HP
          go_wp2_with (at_builtin; (refine wpList_append_txt1 rfl _ _ rfl w.heap.size w4.heap.size _ ss ⟨bs.toArray⟩ rfl rfl (hs4.below (below1 _ _)) (by simp) (by have := HSL.out; have := HKG.out; omega) (by have := b4.size; simp; omega) ?_))
          intro v5 w5 ho5 hg5
          have b5 := pushS_below hs4 (Nat.le_refl _) b4 b4.size hg5
          clear hg5 hs4 b4 ho4 hcv
          have HQ2 : Hid ((q : Int) + 8 = ((8 * (k + 1) : Nat) : Int)) := by have := HQ.out; unfold Hid; omega
          go_wp2
          go_roundg gg
          case rel => exact ⟨k + 1, ss ++ [⟨bs.toArray⟩], by have := HKG.out; omega, by rw [← HQ2.out], HB2, by rw [List.length_append, HSL.out]; rfl, ho5, b5⟩
          case measure => omega

        · have HC : Hid (∀ W, RdE W (.slice a nn cap) es → Calls Try.prog 47 #[.slice a nn cap, .int .i64 q, .int .i64 (nn : Int)] W fun e w' => ∃ u, e = .returned u ∧ (∀ W', RdE W' (.slice a nn cap) es → RdE W' u (chunk es q)) ∧ w' = W) := by rw [← hje]; exact HC0
          clear HC0 hje
          go_wp2_with fail
          refine (HC.out _ hrr).mono ?_
          rintro e w2 ⟨u2, rfl, hru, rfl⟩
          have hru2 := hru _ hrr
          go_wp2_with fail
          refine (HP.out _ _ hru2).mono ?_
          rintro e w4 ⟨u4, rfl, ho4, hb4⟩
          have hcv := conv_own ho4
          have hs4 := ho.below hb4
          have b4 := hb.trans (hb4.mono hb.size)
          clear hrr hru hru2 ho hb hb4 HC HP
          go_wp2_with (at_builtin; (refine wpList_append_txt1 rfl _ _ rfl w.heap.size w4.heap.size _ ss ⟨bs.toArray⟩ rfl rfl (hs4.below (below1 _ _)) (by simp) (by have := HSL.out; have := HKG.out; omega) (by have := b4.size; simp; omega) ?_))
          intro v5 w5 ho5 hg5
          have b5 := pushS_below hs4 (Nat.le_refl _) b4 b4.size hg5
          clear hg5 hs4 b4 ho4 hcv
          have HQ2 : Hid ((q : Int) + 8 = ((8 * (k + 1) : Nat) : Int)) := by have := HQ.out; unfold Hid; omega
          go_wp2
          go_roundg gg
          case rel => exact ⟨k + 1, ss ++ [⟨bs.toArray⟩], by have := HKG.out; omega, by rw [← HQ2.out], HB2, by rw [List.length_append, HSL.out]; rfl, ho5, b5⟩
          case measure => omega
    · have HE : Hid (ss = R) := by
        have h0 : gk = 0 := by have := HKG.out; have := HQ.out; omega
        have := HB.out
        rw [h0, blkF, List.append_nil] at this
        exact this
      have hke : ¬ (q : Int) < (nn : Int) := by omega
      clear HB
      go_wp2
      go_ret
      exact ⟨_, rfl, by rw [← HE.out]; exact ho, hb⟩
end Go.Proofs.Ythaobdknpgnapaa
