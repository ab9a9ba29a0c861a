/- The contracts of the model's TableOk and Entries and of the helpers that they call. The contracts of the model's TableOk, Entries, May and Found. The contracts of the model's Entries, May and Found. -/
import Derived.Test.YtpbbahpndgigjaaGreatDoorPackRead
namespace Go.Proofs.YtpbbahpndgigjaaGreatDoor
set_option maxHeartbeats 16000000
set_option maxRecDepth 100000
open Go.RowKit
theorem l5Same_any (va vb : Value) (xs ys : List Int) (w : World) (ha : RdI w va xs) (hb : RdI w vb ys) :
    Calls Tryz.prog 116 #[va, vb] w fun e w' => e = .returned (.bool (decide (xs = ys))) ∧ ∃ n, w' = w.drewN n := by
  obtain ⟨aa, ca, hva, hla, hma, _⟩ := id ha
  obtain ⟨ab, cb, hvb, hlb, hmb, _⟩ := id hb
  subst hva
  subst hvb
  unfold maxLen at hma hmb
  by_cases hlen : xs.length = ys.length
  · have hne : ((xs.length : Int) != (ys.length : Int)) = false := by simp; omega
    obtain ⟨R, hR⟩ : ∃ R, R = decide (xs = ys) := ⟨_, rfl⟩
    rw [← hR]
    have HR : Hid (R = decide (xs = ys)) := hR
    have HL : Hid (xs.length = ys.length) := hlen
    clear hR hlen
    go_enter Tryz.func116, Tryz.ntmps116
    go_wp2
    go_loopw [5] (fun i wr => ∃ k : Nat, k ≤ xs.length ∧ i = .int .i64 k ∧ Hid (xs.take k = ys.take k) ∧ ∃ n, wr = w.drewN n) (fun i _ => xs.length - (intOf i).toNat)
    case atStart => exact ⟨0, Nat.zero_le _, rfl, by unfold Hid; simp, 0, rfl⟩
    case round =>
      obtain ⟨k, hk, rfl, HT, n, rfl⟩ := hrel
      by_cases hlt : k < xs.length
      · have hltb : k < ys.length := by have := HL.out; omega
        obtain ⟨b1, o1, rfl, c1⟩ := (ha.drewN n).at k hlt
        obtain ⟨b2, o2, rfl, c2⟩ := (hb.drewN n).at k hltb
        obtain ⟨x, hx⟩ : ∃ x, x = xs[k] := ⟨_, rfl⟩
        obtain ⟨y, hy⟩ : ∃ y, y = ys[k] := ⟨_, rfl⟩
        rw [← hx] at c1
        rw [← hy] at c2
        by_cases hxy : x = y
        · have hd : (x != y) = false := by simp [hxy]
          have HT2 : Hid (xs.take (k + 1) = ys.take (k + 1)) := by unfold Hid; rw [List.take_succ_eq_append_getElem hlt, List.take_succ_eq_append_getElem hltb, HT.out, ← hx, ← hy, hxy]
          clear hx hy hxy HT
          go_wp2_with fail
          refine wp_region_noPanic ?_
          refine wp_region_held_drew (S := fun w' => w'.cell? ⟨b1, o1 + k, none⟩ = some (.int .i64 x) ∧ w'.cell? ⟨b2, o2 + k, none⟩ = some (.int .i64 y)) (by kernel_rfl) ⟨c1, c2⟩ (fun hH => ?_)
          refine tkA 0 17 hH ?_; try simp only [Act.put, sA, sZ, sS]
          refine tkA 1 18 hH ?_; try simp only [Act.put, sA, sZ, sS]
          refine tkA 2 19 hH ?_; try simp only [Act.put, sA, sZ, sS]
          refine tkA 3 20 hH ?_; try simp only [Act.put, sA, sZ, sS]
          refine tkA 4 21 hH ?_; try simp only [Act.put, sA, sZ, sS]
          refine tkA 5 22 hH ?_; try simp only [Act.put, sA, sZ, sS]
          refine tkA 6 23 hH ?_; try simp only [Act.put, sA, sZ, sS]
          refine tkA 7 24 hH ?_; try simp only [Act.put, sA, sZ, sS]
          refine tkA 8 25 hH ?_; try simp only [Act.put, sA, sZ, sS]
          refine wpAnyH_done (by kernel_rfl) ?_ _
          refine NoPanic.normal ?_
          go_wp2
          go_roundw
          case rel => exact ⟨k + 1, by omega, by go_num, HT2, n + 1, rfl⟩
          case measure => simp [intOf]; omega
        · have hd : (x != y) = true := by simp [hxy]
          have HF : Hid (R = false) := by
            unfold Hid
            rw [HR.out]
            refine decide_eq_false fun e => hxy ?_
            rw [hx, hy]
            simp only [e]
          clear hx hy hxy HT
          go_wp2_with fail
          refine wp_region_noPanic ?_
          refine wp_region_held_drew (S := fun w' => w'.cell? ⟨b1, o1 + k, none⟩ = some (.int .i64 x) ∧ w'.cell? ⟨b2, o2 + k, none⟩ = some (.int .i64 y)) (by kernel_rfl) ⟨c1, c2⟩ (fun hH => ?_)
          refine tkA 0 17 hH ?_; try simp only [Act.put, sA, sZ, sS]
          refine tkA 1 18 hH ?_; try simp only [Act.put, sA, sZ, sS]
          refine tkA 2 19 hH ?_; try simp only [Act.put, sA, sZ, sS]
          refine tkA 3 20 hH ?_; try simp only [Act.put, sA, sZ, sS]
          refine tkA 4 21 hH ?_; try simp only [Act.put, sA, sZ, sS]
          refine tkA 5 22 hH ?_; try simp only [Act.put, sA, sZ, sS]
          refine tkA 6 23 hH ?_; try simp only [Act.put, sA, sZ, sS]
          refine tkA 7 24 hH ?_; try simp only [Act.put, sA, sZ, sS]
          refine tkA 8 25 hH ?_; try simp only [Act.put, sA, sZ, sS]
          refine wpAnyH_done (by kernel_rfl) ?_ _
          refine NoPanic.normal ?_
          go_wp2
          go_ret
          exact ⟨by have h := HF.out; subst h; rfl, n + 1, rfl⟩
      · have HF : Hid (R = true) := by
          unfold Hid
          rw [HR.out]
          have := HT.out
          rw [List.take_of_length_le (by omega), List.take_of_length_le (by have := HL.out; omega)] at this
          exact decide_eq_true this
        have hlt2 : ¬ (k : Int) < (xs.length : Int) := by omega
        go_wp2
        go_ret
        exact ⟨by have h := HF.out; subst h; rfl, n, rfl⟩
  · have hne : ((xs.length : Int) != (ys.length : Int)) = true := by simp; omega
    have HF : Hid (decide (xs = ys) = false) := decide_eq_false fun e => hlen (by rw [e])
    rw [HF.out]
    clear hlen
    go_enter Tryz.func116, Tryz.ntmps116
    go_wp2
    go_ret
    exact ⟨rfl, 0, rfl⟩
def TblAt (w : World) (b : Nat) (T : Tbl) (vb vk : Value) : Prop :=
  w.cell? ⟨b, 0, none⟩ = some (.string T.first) ∧ w.cell? ⟨b, 1, none⟩ = some (.string T.last) ∧ w.cell? ⟨b, 2, none⟩ = some vb ∧ w.cell? ⟨b, 3, none⟩ = some vk
theorem TblAt.lt {w : World} {b : Nat} {T : Tbl} {vb vk : Value} (h : TblAt w b T vb vk) : b < w.heap.size := World.block_lt_of_cell? w _ h.1
theorem TblAt.of_block {w w' : World} {b : Nat} {T : Tbl} {vb vk : Value} (h : TblAt w b T vb vk) (hb : w'.heap[b]? = w.heap[b]?) : TblAt w' b T vb vk :=
  ⟨(World.cell?_of_block (a := ⟨b, 0, none⟩) hb).trans h.1, (World.cell?_of_block (a := ⟨b, 1, none⟩) hb).trans h.2.1, (World.cell?_of_block (a := ⟨b, 2, none⟩) hb).trans h.2.2.1, (World.cell?_of_block (a := ⟨b, 3, none⟩) hb).trans h.2.2.2⟩
theorem TblAt.below {w w' : World} {b : Nat} {T : Tbl} {vb vk : Value} (h : TblAt w b T vb vk) (hb : Below w.heap.size w w') : TblAt w' b T vb vk := h.of_block (hb.block b h.lt)
theorem tblAt_new (W : World) (T : Tbl) (vb vk : Value) (t : TypeId) : TblAt (W.alloc (.cells #[.string T.first, .string T.last, vb, vk] t)) W.heap.size T vb vk :=
  ⟨by simp [World.cell?_alloc_at], by simp [World.cell?_alloc_at], by simp [World.cell?_alloc_at], by simp [World.cell?_alloc_at]⟩
theorem unpPost_is {w wr : World} {B : Nat} {F : List Ent × Bool} {u : Value} {es : List Ent} {ok : Bool} (h : F = (es, ok)) (ho : OwnE wr B u es) (hB : w.heap.size ≤ B) (hb : Below w.heap.size w wr) : UnpPost w F (.returned (.tuple #[u, .bool ok])) wr := by
  subst h; exact ⟨u, rfl, ho.mono hB, hb⟩
theorem RdS.at {w : World} {a : Option Addr} {n cap : Nat} {ss : List ByteArray} (h : RdS w (.slice a n cap) ss) (i : Nat) (hi : i < ss.length) : ∃ b off, a = some ⟨b, off, none⟩ ∧ w.cell? ⟨b, off + i, none⟩ = some (.string ss[i]) := by
  obtain ⟨a', cap', hv, _, _, h3⟩ := h
  simp only [Value.slice.injEq] at hv
  obtain ⟨rfl, _, _⟩ := hv
  rcases h3 with rfl | ⟨b, off, ha, hc⟩
  · simp at hi
  · exact ⟨b, off, ha, hc i hi⟩
theorem allF_no {b : ByteArray} {r : List ByteArray} {acc : List Ent} (h : ¬ ((unpI b.data.toList).2 = true ∧ 1 ≤ (unpI b.data.toList).1.length ∧ (unpI b.data.toList).1.length ≤ 8)) : allF (b :: r) acc = none := by rw [allF, if_neg h]
theorem allF_go {b : ByteArray} {r : List ByteArray} {acc : List Ent} (h : (unpI b.data.toList).2 = true ∧ 1 ≤ (unpI b.data.toList).1.length ∧ (unpI b.data.toList).1.length ≤ 8) : allF (b :: r) acc = allF r (acc ++ (unpI b.data.toList).1) := by rw [allF, if_pos h]
theorem unpI_fits (bs : List UInt8) : ∀ x ∈ (unpI bs).1, Fits x := by
  cases h : unpI bs with
  | mk es ok =>
    cases ok with
    | true =>
      intro x hx
      have := okE_parts (okL_all (unpI_back h).1 x hx)
      exact ⟨by omega, by omega, by omega, by omega⟩
    | false => rw [unpI_no h]; intro x hx; cases hx
theorem specUnp_any (v : Value) (bs : List UInt8) (w : World) (hr : Rd w v bs) : Calls Tryz.prog 114 #[v] w fun e w' => UnpPost w (unpI bs) e w' := by rw [← unp_same]; exact specUnpacked_any v bs w hr
theorem l5All_any (T : Tbl) (vb vk : Value) (w : World) (hr : RdS w vk T.blocks) (hz : ∀ s ∈ T.blocks, s.size ≤ 1000000000) :
    Calls Tryz.prog 105 #[.agg #[.string T.first, .string T.last, vb, vk]] w fun e w' => UnpPost w (allL T) e w' := by
  obtain ⟨ak, ck, hvk, hl, hm, _⟩ := id hr
  obtain ⟨kn, hkn⟩ : ∃ kn, kn = T.blocks.length := ⟨_, rfl⟩
  have HKN : Hid (kn = T.blocks.length) := hkn
  rw [← hkn] at hl hvk
  subst hvk
  clear hkn
  unfold maxLen at hm
  have HZ : Hid (∀ s ∈ T.blocks, s.size ≤ 1000000000) := hz
  clear hz
  have ht0 := tblAt_new w T vb (.slice ak kn ck) 95
  have b0 := below1 w (.cells #[.string T.first, .string T.last, vb, .slice ak kn ck] 95)
  obtain ⟨F, hF⟩ : ∃ F, F = allL T := ⟨_, rfl⟩
  rw [← hF]
  have HF : Hid (F = allL T) := hF
  clear hF
  obtain ⟨d0, d1, d2, d3⟩ := id ht0
  by_cases hbad : kn < 1 ∨ 40 < kn
  · have RES : Hid (F = ([], false)) := by unfold Hid; rw [HF.out]; unfold allL; rw [← HKN.out, if_pos hbad]
    have hoE := ownE_none (w.alloc (.cells #[.string T.first, .string T.last, vb, .slice ak kn ck] 95))
    rw [show (w.alloc (.cells #[.string T.first, .string T.last, vb, .slice ak kn ck] 95)).heap.size = w.heap.size + 1 by simp] at hoE
    rcases hbad with hb1 | hb1
    · have hd1 : decide ((kn : Int) < 1) = true := by simp; omega
      go_enter Tryz.func105, Tryz.ntmps105
      go_wp2
      go_ret2
      exact unpPost_no RES.out hoE (Nat.le_succ _) (b0.alloc b0.size _)
    · have hd1 : decide ((kn : Int) < 1) = false := by simp; omega
      have hd2 : decide (40 < (kn : Int)) = true := by simp; omega
      go_enter Tryz.func105, Tryz.ntmps105
      go_wp2
      go_ret2
      exact unpPost_no RES.out hoE (Nat.le_succ _) (b0.alloc b0.size _)
  obtain ⟨res, hres⟩ : ∃ res, res = allF T.blocks [] := ⟨_, rfl⟩
  have HR0 : Hid (allF (T.blocks.drop 0) [] = res) := by rw [List.drop_zero]; exact hres.symm
  have R0 : Hid (res = none → F = ([], false)) := fun h => by rw [HF.out]; unfold allL; rw [← HKN.out, if_neg hbad, ← hres, h]
  have R1 : Hid (∀ es, res = some es → F = (es, okL es)) := fun es h => by rw [HF.out]; unfold allL; rw [← HKN.out, if_neg hbad, ← hres, h]
  clear hres HF
  have hk1 : 1 ≤ kn := by omega
  have hk2 : kn ≤ 40 := by omega
  have hd1 : decide ((kn : Int) < 1) = false := by simp; omega
  have hd2 : decide (40 < (kn : Int)) = false := by simp; omega
  have hoE := ownE_none (w.alloc (.cells #[.string T.first, .string T.last, vb, .slice ak kn ck] 95))
  have b1 := b0.alloc b0.size (.cells #[] 71)
  have ht1 := ht0.below (below1 _ (.cells #[] 71))
  rw [show (w.alloc (.cells #[.string T.first, .string T.last, vb, .slice ak kn ck] 95)).heap.size = w.heap.size + 1 by simp] at hoE
  clear hbad
  go_enter Tryz.func105, Tryz.ntmps105
  go_wp2
  clear d0 d1 d2 d3
  go_loopw [4, 5] (fun u i wr => ∃ (k : Nat) (es : List Ent), k ≤ kn ∧ i = .int .i64 k ∧ Hid (allF (T.blocks.drop k) es = res) ∧ es.length ≤ 8 * k ∧ Hid (∀ x ∈ es, Fits x) ∧ OwnE wr (w.heap.size + 1) u es ∧ TblAt wr w.heap.size T vb (.slice ak kn ck) ∧ Below w.heap.size w wr) (fun _ i _ => kn - (intOf i).toNat)
  case atStart => exact ⟨0, [], Nat.zero_le _, rfl, HR0, Nat.zero_le _, (fun x hx => by cases hx), hoE, ht1, b1⟩
  case round =>
    obtain ⟨k, es, hk, rfl, HA, hel, HFT, ho, ht, hb⟩ := hrel
    clear hoE b1 ht1 ht0 b0 HR0
    obtain ⟨d0, d1, d2, d3⟩ := id ht
    by_cases hlt : k < kn
    · have hltb : k < T.blocks.length := by rw [← HKN.out]; exact hlt
      obtain ⟨b, off, rfl, hcs⟩ := (hr.below hb).at k hltb
      obtain ⟨s, hs⟩ : ∃ s, s = T.blocks[k] := ⟨_, rfl⟩
      rw [← hs] at hcs
      have hsz : s.size ≤ 1000000000 := by rw [hs]; exact HZ.out _ (List.getElem_mem hltb)
      have HA2 : Hid (allF (s :: T.blocks.drop (k + 1)) es = res) := by rw [hs, ← List.drop_eq_getElem_cons hltb]; exact HA
      clear hs HA
      have hcb := conv_bytes wr s
      have hrd := bytes_rd wr s (by unfold maxLen; omega)
      have hbb := bytes_below wr s
      generalize Lib.bytesWorld wr 5 s = W at hcb hrd hbb
      generalize grownCap wr s.size 0 5 = c0 at hcb hrd
      obtain ⟨F2, hF2⟩ : ∃ F2, F2 = unpI s.data.toList := ⟨_, rfl⟩
      have HCU : Hid (Calls Tryz.prog 114 #[.slice (some ⟨wr.heap.size, 0, none⟩) s.size c0] W fun e w' => UnpPost W F2 e w') := by rw [hF2]; exact specUnp_any _ _ _ hrd
      have HFF : Hid (∀ x ∈ F2.1, Fits x) := by rw [hF2]; exact unpI_fits _
      have HNO : Hid (¬ (F2.2 = true ∧ 1 ≤ F2.1.length ∧ F2.1.length ≤ 8) → F = ([], false)) := fun h => R0.out (by rw [← HA2.out]; exact allF_no (by rw [← hF2]; exact h))
      have HGO : Hid (F2.2 = true ∧ 1 ≤ F2.1.length ∧ F2.1.length ≤ 8 → allF (T.blocks.drop (k + 1)) (es ++ F2.1) = res) := fun h => by rw [← HA2.out, allF_go (by rw [← hF2]; exact h), ← hF2]
      clear hF2 hrd HA2
      obtain ⟨l, is⟩ := F2
      have ho2 := ho.below hbb
      have ht2 := ht.below hbb
      have b2 := hb.trans (hbb.mono hb.size)
      clear ho ht hb hbb
      go_wp2_with fail
      refine HCU.out.mono ?_
      rintro e w3 ⟨ul, rfl, hl3, hb3⟩
      simp only at hl3 HNO HGO HFF ⊢
      have ho3 := ho2.below hb3
      have ht3 := ht2.below hb3
      have b3 := b2.trans (hb3.mono b2.size)
      clear ho2 ht2 b2 hb3 HCU hcb d0 d1 d2 d3 hcs
      obtain ⟨al, cl, hvl, hl1, hl2, _⟩ := id hl3.rd
      obtain ⟨ln, hln⟩ : ∃ ln, ln = l.length := ⟨_, rfl⟩
      rw [← hln] at hvl hl1 HNO HGO
      have HLN : Hid (ln = l.length) := hln
      subst hvl
      unfold maxLen at hl2
      clear hln
      cases is with
      | false =>
        have RES : Hid (F = ([], false)) := HNO.out (by simp)
        go_wp2
        go_ret2
        exact unpPost_no RES.out (ownE_new w3) b3.size (b3.alloc b3.size _)
      | true =>
        by_cases q1 : ln < 1
        · skip
          have RES : Hid (F = ([], false)) := HNO.out (by omega)
          have q1d : decide ((ln : Int) < 1) = true := by simp; omega
          go_wp2
          go_ret2
          exact unpPost_no RES.out (ownE_new w3) b3.size (b3.alloc b3.size _)
        · have q1d : decide ((ln : Int) < 1) = false := by simp; omega
          by_cases q2 : 8 < ln
          · skip
            have RES : Hid (F = ([], false)) := HNO.out (by omega)
            have q2d : decide (8 < (ln : Int)) = true := by simp; omega
            go_wp2
            go_ret2
            exact unpPost_no RES.out (ownE_new w3) b3.size (b3.alloc b3.size _)
          · skip
            have q2d : decide (8 < (ln : Int)) = false := by simp; omega
            have HA4 : Hid (allF (T.blocks.drop (k + 1)) (es ++ l) = res) := HGO.out ⟨rfl, by omega, by omega⟩
            have HFT4 : Hid (∀ x ∈ es ++ l, Fits x) := fun x hx => by
              rcases List.mem_append.1 hx with h | h
              · exact HFT.out x h
              · exact HFF.out x h
            have hel4 : (es ++ l).length ≤ 8 * (k + 1) := by rw [List.length_append, ← HLN.out]; omega
            go_wp2_with (at_builtin; (refine wpList_append_ents rfl _ _ rfl (w.heap.size + 1) _ _ es l rfl rfl ho3 hl3.rd (by rw [← HLN.out]; omega) ht3.lt ?_))
            intro v5 w5 ho5 hg5
            have b5 := b3.grown hg5 b3.size (fun j hj => Nat.le_of_succ_le (World.ownsRow.lt ho3 j hj).1)
            have ht5 : TblAt w5 w.heap.size T vb (.slice (some ⟨b, off, none⟩) kn ck) := ht3.of_block (hg5.block _ ht3.lt (fun e => by have := (World.ownsRow.lt ho3 _ e.symm).1; omega))
            clear ho3 ht3 b3 hl3 hg5
            go_wp2
            go_roundw
            case rel => exact ⟨k + 1, es ++ l, by omega, by go_num, HA4, hel4, HFT4, ho5, ht5, b5⟩
            case measure => simp [intOf]; omega
    · skip
      have hke : k = kn := by omega
      have RES : Hid (F = (es, okL es)) := R1.out es (by have := HA.out; rw [hke, HKN.out, List.drop_eq_nil_of_le (Nat.le_refl _), allF] at this; exact this.symm)
      have hlt2 : ¬ (k : Int) < (kn : Int) := by omega
      clear hke HA
      go_wp2_with fail
      refine (specEntriesOk_any _ es _ ho.rd HFT.out).mono ?_
      rintro e w3 ⟨rfl, hb3⟩
      have ho3 := ho.below hb3
      have b3 := hb.trans (hb3.mono hb.size)
      generalize okL es = ok at RES ⊢
      go_wp2
      go_ret2
      exact unpPost_is RES.out ho3 (Nat.le_succ _) b3
open Go.RowKit
theorem allF_more : ∀ (bs : List ByteArray) (acc es : List Ent), allF bs acc = some es → ∃ t, es = acc ++ t
  | [], acc, es, h => by rw [allF] at h; cases h; exact ⟨[], by simp⟩
  | b :: r, acc, es, h => by
    rw [allF] at h
    split at h
    · obtain ⟨t, ht⟩ := allF_more r _ _ h; exact ⟨_, by rw [ht, List.append_assoc]⟩
    · cases h
theorem allL_true {T : Tbl} (h : (allL T).2 = true) : okL (allL T).1 = true ∧ (allL T).1 ≠ [] := by
  unfold allL at h ⊢
  split at h
  · cases h
  · rename_i hb
    rw [if_neg hb]
    split at h
    · cases h
    · rename_i es hes
      refine ⟨h, ?_⟩
      simp only
      intro hn
      subst hn
      obtain ⟨b, r, hbr⟩ : ∃ b r, T.blocks = b :: r := by
        cases hT : T.blocks with
        | nil => rw [hT] at hb; simp at hb
        | cons b r => exact ⟨b, r, rfl⟩
      rw [hbr, allF] at hes
      split at hes
      · rename_i hq
        obtain ⟨t, ht⟩ := allF_more r _ _ hes
        rw [List.nil_append] at ht
        have := congrArg List.length ht
        rw [List.length_append, List.length_nil] at this
        omega
      · cases hes
theorem okL_fitsT {es : List Ent} (h : okL es = true) : ∀ x ∈ es, Fits x := fun x hx => by
  have := okE_parts (okL_all h x hx)
  exact ⟨by omega, by omega, by omega, by omega⟩
theorem specTableOk_any (T : Tbl) (vb vk : Value) (w : World) (hi : RdI w vb T.bits) (hr : RdS w vk T.blocks) (hz : ∀ s ∈ T.blocks, s.size ≤ 1000000000) :
    Calls Tryz.prog 106 #[.agg #[.string T.first, .string T.last, vb, vk]] w fun e w' => e = .returned (.bool (tableOk T)) ∧ Below w.heap.size w w' := by
  have ht0 := tblAt_new w T vb vk 95
  have b0 := below1 w (.cells #[.string T.first, .string T.last, vb, vk] 95)
  have HALL := l5All_any T vb vk _ (hr.below b0) hz
  obtain ⟨R, hR⟩ : ∃ R, R = tableOk T := ⟨_, rfl⟩
  rw [← hR]
  obtain ⟨F, hF⟩ : ∃ F, F = allL T := ⟨_, rfl⟩
  have HT := @allL_true T
  unfold tableOk at hR
  rw [← hF] at hR HALL HT
  have HR : Hid (R = (F.2 && decide (T.first = (nth F.1 0).key) && decide (T.last = (nth F.1 (F.1.length - 1)).key) && decide (T.bits = bitsL F.1))) := hR
  have HA : Hid (Calls _ _ _ _ _) := HALL
  have HT2 : Hid (F.2 = true → okL F.1 = true ∧ F.1 ≠ []) := HT
  clear hF hR HALL HT
  obtain ⟨es, is⟩ := F
  simp only at HR HT2
  obtain ⟨d0, d1, d2, d3⟩ := id ht0
  go_enter Tryz.func106, Tryz.ntmps106
  go_wp2_with fail
  refine HA.out.mono ?_
  rintro e w1 ⟨u, rfl, ho1, hb1⟩
  simp only at ho1 ⊢
  have ht1 := ht0.below hb1
  have b1 := b0.trans (hb1.mono b0.size)
  have hi1 := hi.below b1
  clear HA ht0 b0 hb1 d0 d1 d2 d3
  cases is with
  | false =>
    have RES : Hid (R = false) := by unfold Hid; rw [HR.out]; rfl
    go_wp2_with fail
    refine wp_region_noPanic ?_
    refine wp_region_held_drew (S := fun _ => True) (by kernel_rfl) trivial (fun hH => ?_)
    refine tkA 0 10 hH ?_; try simp only [Act.put, sA, sZ, sS]
    refine tkA 1 11 hH ?_; try simp only [Act.put, sA, sZ, sS]
    refine tkS 2 12 hH ?_; try simp only [Act.put, sA, sZ, sS]
    refine tkS 3 13 hH ?_; try simp only [Act.put, sA, sZ, sS]
    refine tkS 4 14 hH ?_; try simp only [Act.put, sA, sZ, sS]
    refine tkS 5 15 hH ?_; try simp only [Act.put, sA, sZ, sS]
    refine tkS 6 16 hH ?_; try simp only [Act.put, sA, sZ, sS]
    refine tkS 7 17 hH ?_; try simp only [Act.put, sA, sZ, sS]
    refine tkS 8 18 hH ?_; try simp only [Act.put, sA, sZ, sS]
    refine tkA 9 19 hH ?_; try simp only [Act.put, sA, sZ, sS]
    refine tkA 10 20 hH ?_; try simp only [Act.put, sA, sZ, sS]
    refine tkS 11 21 hH ?_; try simp only [Act.put, sA, sZ, sS]
    refine tkS 12 22 hH ?_; try simp only [Act.put, sA, sZ, sS]
    refine tkS 13 23 hH ?_; try simp only [Act.put, sA, sZ, sS]
    refine tkS 14 24 hH ?_; try simp only [Act.put, sA, sZ, sS]
    refine tkS 15 25 hH ?_; try simp only [Act.put, sA, sZ, sS]
    refine tkS 16 26 hH ?_; try simp only [Act.put, sA, sZ, sS]
    refine tkS 17 27 hH ?_; try simp only [Act.put, sA, sZ, sS]
    refine tkS 18 28 hH ?_; try simp only [Act.put, sA, sZ, sS]
    refine tkS 19 29 hH ?_; try simp only [Act.put, sA, sZ, sS]
    refine tkS 20 30 hH ?_; try simp only [Act.put, sA, sZ, sS]
    refine tkA 21 31 hH ?_; try simp only [Act.put, sA, sZ, sS]
    refine tkA 22 32 hH ?_; try simp only [Act.put, sA, sZ, sS]
    refine tkS 23 33 hH ?_; try simp only [Act.put, sA, sZ, sS]
    refine tkS 24 34 hH ?_; try simp only [Act.put, sA, sZ, sS]
    refine tkS 25 35 hH ?_; try simp only [Act.put, sA, sZ, sS]
    refine tkS 26 36 hH ?_; try simp only [Act.put, sA, sZ, sS]
    refine tkS 27 37 hH ?_; try simp only [Act.put, sA, sZ, sS]
    refine tkA 28 38 hH ?_; try simp only [Act.put, sA, sZ, sS]
    refine tkA 29 2 hH ?_; try simp only [Act.put, sA, sZ, sS]
    refine wpAnyH_done (by kernel_rfl) ?_ _
    refine NoPanic.normal ?_
    go_wp2
    go_ret
    exact ⟨by have h := RES.out; subst h; rfl, b1.drew⟩
  | true =>
    obtain ⟨hok, hne⟩ := HT2.out rfl
    have HFT : Hid (∀ x ∈ es, Fits x) := okL_fitsT hok
    have HKS : Hid (∀ e ∈ es, e.key.size ≤ 1000000000) := fun e he => by have := okE_parts (okL_all hok e he); omega
    have hl3 := okL_len hok
    have hlp : 0 < es.length := List.length_pos_iff.2 hne
    obtain ⟨aU, cU, hvU, hU1, hU2, _⟩ := id ho1.rd
    subst hvU
    obtain ⟨b, off, rfl, hc0⟩ := ho1.rd.at rfl 0 hlp
    obtain ⟨b', off', hb', hcl⟩ := ho1.rd.at rfl (es.length - 1) (by omega)
    cases hb'
    obtain ⟨m, hm⟩ : ∃ m, m = es.length - 1 := ⟨_, rfl⟩
    rw [← hm] at hcl HR
    rw [Nat.zero_mul, Nat.add_zero] at hc0
    obtain ⟨e0, he0⟩ : ∃ e0, e0 = nth es 0 := ⟨_, rfl⟩
    obtain ⟨el, hel⟩ : ∃ el, el = nth es m := ⟨_, rfl⟩
    rw [← he0] at hc0 HR
    rw [← hel] at hcl HR
    have HR2 : Hid (R = (decide (T.first = e0.key) && decide (T.last = el.key) && decide (T.bits = bitsL es))) := by unfold Hid; rw [HR.out]; simp
    obtain ⟨nn, hnn⟩ : ∃ nn, nn = es.length := ⟨_, rfl⟩
    have HCB : Hid (∀ W, OwnE W (w.alloc (.cells #[.string T.first, .string T.last, vb, vk] 95)).heap.size (.slice (some ⟨b, off, none⟩) nn cU) es → Calls Tryz.prog 100 #[.slice (some ⟨b, off, none⟩) nn cU] W fun e w' => ∃ u, e = .returned u ∧ OwnI w' W.heap.size u (bitsL es) ∧ Below W.heap.size W w') := fun W h => by rw [hnn] at h ⊢; exact l5Bits_any _ es W h.rd HKS.out (by omega)
    rw [← hnn] at ho1 ⊢
    have hnm : (nn : Int) - 1 = (m : Int) := by omega
    have hwm : IntKind.i64.wrap (m : Int) = (m : Int) := by rw [IntKind.wrap_i64]; omega
    have hmn : m < nn := by omega
    have hn0 : 0 < nn := by omega
    have hn3 : nn ≤ 300 := by omega
    clear HR HT2 hok hne hnn hm he0 hel hl3 hlp hU1
    obtain ⟨t0, t1, t2, t3⟩ := id ht1
    have KB1 := beq_kEq T.first e0.key
    have KB2 := beq_kEq T.last el.key
    cases hk1 : kEq T.first e0.key with
    | false =>
      rw [hk1] at KB1
      have RES : Hid (R = false) := by unfold Hid; rw [HR2.out]; unfold kEq at hk1; rw [hk1]; rfl
      go_wp2_with fail
      refine wp_region_noPanic ?_
      refine wp_region_held_drew (S := fun w' => (w'.cell? ⟨w.heap.size, 0, none⟩ = some (.string T.first) ∧ w'.cell? ⟨w.heap.size, 1, none⟩ = some (.string T.last) ∧ w'.cell? ⟨w.heap.size, 2, none⟩ = some vb) ∧ EntAt w' b off e0 ∧ EntAt w' b (off + m * 4) el) (by kernel_rfl) ⟨⟨t0, t1, t2⟩, hc0, hcl⟩ (fun hH => ?_)
      refine tkA 0 10 hH ?_; try simp only [Act.put, sA, sZ, sS]
      refine tkA 1 11 hH ?_; try simp only [Act.put, sA, sZ, sS]
      refine tkA 2 12 hH ?_; try simp only [Act.put, sA, sZ, sS]
      refine tkA 3 13 hH ?_; try simp only [Act.put, sA, sZ, sS]
      refine tkA 4 14 hH ?_; try simp only [Act.put, sA, sZ, sS]
      refine tkA 5 15 hH ?_; try simp only [Act.put, sA, sZ, sS]
      refine tkA 6 16 hH ?_; try simp only [Act.put, sA, sZ, sS]
      refine tkA 7 17 hH ?_; try simp only [Act.put, sA, sZ, sS]
      refine tkA 8 18 hH ?_; try simp only [Act.put, sA, sZ, sS]
      refine tkA 9 19 hH ?_; try simp only [Act.put, sA, sZ, sS]
      refine tkA 10 20 hH ?_; try simp only [Act.put, sA, sZ, sS]
      refine tkS 11 21 hH ?_; try simp only [Act.put, sA, sZ, sS]
      refine tkS 12 22 hH ?_; try simp only [Act.put, sA, sZ, sS]
      refine tkS 13 23 hH ?_; try simp only [Act.put, sA, sZ, sS]
      refine tkS 14 24 hH ?_; try simp only [Act.put, sA, sZ, sS]
      refine tkS 15 25 hH ?_; try simp only [Act.put, sA, sZ, sS]
      refine tkS 16 26 hH ?_; try simp only [Act.put, sA, sZ, sS]
      refine tkS 17 27 hH ?_; try simp only [Act.put, sA, sZ, sS]
      refine tkS 18 28 hH ?_; try simp only [Act.put, sA, sZ, sS]
      refine tkS 19 29 hH ?_; try simp only [Act.put, sA, sZ, sS]
      refine tkS 20 30 hH ?_; try simp only [Act.put, sA, sZ, sS]
      refine tkA 21 31 hH ?_; try simp only [Act.put, sA, sZ, sS]
      refine tkA 22 32 hH ?_; try simp only [Act.put, sA, sZ, sS]
      refine tkS 23 33 hH ?_; try simp only [Act.put, sA, sZ, sS]
      refine tkS 24 34 hH ?_; try simp only [Act.put, sA, sZ, sS]
      refine tkS 25 35 hH ?_; try simp only [Act.put, sA, sZ, sS]
      refine tkS 26 36 hH ?_; try simp only [Act.put, sA, sZ, sS]
      refine tkS 27 37 hH ?_; try simp only [Act.put, sA, sZ, sS]
      refine tkA 28 38 hH ?_; try simp only [Act.put, sA, sZ, sS]
      refine tkA 29 2 hH ?_; try simp only [Act.put, sA, sZ, sS]
      refine wpAnyH_done (by kernel_rfl) ?_ _
      refine NoPanic.normal ?_
      go_wp2
      go_ret
      exact ⟨by have h := RES.out; subst h; rfl, b1.drew⟩
    | true =>
      rw [hk1] at KB1
      cases hk2 : kEq T.last el.key with
      | false =>
        rw [hk2] at KB2
        have RES : Hid (R = false) := by unfold Hid; rw [HR2.out]; unfold kEq at hk2; rw [hk2]; simp
        go_wp2_with fail
        refine wp_region_noPanic ?_
        refine wp_region_held_drew (S := fun w' => (w'.cell? ⟨w.heap.size, 0, none⟩ = some (.string T.first) ∧ w'.cell? ⟨w.heap.size, 1, none⟩ = some (.string T.last) ∧ w'.cell? ⟨w.heap.size, 2, none⟩ = some vb) ∧ EntAt w' b off e0 ∧ EntAt w' b (off + m * 4) el) (by kernel_rfl) ⟨⟨t0, t1, t2⟩, hc0, hcl⟩ (fun hH => ?_)
        refine tkA 0 10 hH ?_; try simp only [Act.put, sA, sZ, sS]
        refine tkA 1 11 hH ?_; try simp only [Act.put, sA, sZ, sS]
        refine tkA 2 12 hH ?_; try simp only [Act.put, sA, sZ, sS]
        refine tkA 3 13 hH ?_; try simp only [Act.put, sA, sZ, sS]
        refine tkA 4 14 hH ?_; try simp only [Act.put, sA, sZ, sS]
        refine tkA 5 15 hH ?_; try simp only [Act.put, sA, sZ, sS]
        refine tkA 6 16 hH ?_; try simp only [Act.put, sA, sZ, sS]
        refine tkA 7 17 hH ?_; try simp only [Act.put, sA, sZ, sS]
        refine tkA 8 18 hH ?_; try simp only [Act.put, sA, sZ, sS]
        refine tkA 9 19 hH ?_; try simp only [Act.put, sA, sZ, sS]
        refine tkA 10 20 hH ?_; try simp only [Act.put, sA, sZ, sS]
        refine tkA 11 21 hH ?_; try simp only [Act.put, sA, sZ, sS]
        refine tkA 12 22 hH ?_; try simp only [Act.put, sA, sZ, sS]
        refine tkA 13 23 hH ?_; try simp only [Act.put, sA, sZ, sS]
        refine tkA 14 24 hH ?_; try simp only [Act.put, sA, sZ, sS]
        refine tkA 15 25 hH ?_; try simp only [Act.put, sA, sZ, sS]
        refine tkA 16 26 hH ?_; try simp only [Act.put, sA, sZ, sS]
        refine tkA 17 27 hH ?_; try simp only [Act.put, sA, sZ, sS]
        refine tkA 18 28 hH ?_; try simp only [Act.put, sA, sZ, sS]
        refine tkA 19 29 hH ?_; try simp only [Act.put, sA, sZ, sS]
        refine tkA 20 30 hH ?_; try simp only [Act.put, sA, sZ, sS]
        refine tkA 21 31 hH ?_; try simp only [Act.put, sA, sZ, sS]
        refine tkA 22 32 hH ?_; try simp only [Act.put, sA, sZ, sS]
        refine tkS 23 33 hH ?_; try simp only [Act.put, sA, sZ, sS]
        refine tkS 24 34 hH ?_; try simp only [Act.put, sA, sZ, sS]
        refine tkS 25 35 hH ?_; try simp only [Act.put, sA, sZ, sS]
        refine tkS 26 36 hH ?_; try simp only [Act.put, sA, sZ, sS]
        refine tkS 27 37 hH ?_; try simp only [Act.put, sA, sZ, sS]
        refine tkA 28 38 hH ?_; try simp only [Act.put, sA, sZ, sS]
        refine tkA 29 2 hH ?_; try simp only [Act.put, sA, sZ, sS]
        refine wpAnyH_done (by kernel_rfl) ?_ _
        refine NoPanic.normal ?_
        go_wp2
        go_ret
        exact ⟨by have h := RES.out; subst h; rfl, b1.drew⟩
      | true =>
        rw [hk2] at KB2
        have RES : Hid (R = decide (T.bits = bitsL es)) := by unfold Hid; rw [HR2.out]; unfold kEq at hk1 hk2; rw [hk1, hk2]; simp
        go_wp2_with fail
        refine wp_region_noPanic ?_
        refine wp_region_held_drew (S := fun w' => (w'.cell? ⟨w.heap.size, 0, none⟩ = some (.string T.first) ∧ w'.cell? ⟨w.heap.size, 1, none⟩ = some (.string T.last) ∧ w'.cell? ⟨w.heap.size, 2, none⟩ = some vb) ∧ EntAt w' b off e0 ∧ EntAt w' b (off + m * 4) el) (by kernel_rfl) ⟨⟨t0, t1, t2⟩, hc0, hcl⟩ (fun hH => ?_)
        have qo : OwnE w1.drew _ _ es := ho1.drewN 1
        have qb := b1.drew
        have qi : RdI w1.drew vb T.bits := hi1.drewN 1
        clear ho1 b1 hi1 ht1 t0 t1 t2 t3 hc0 hcl
        revert qo
        revert qb
        revert qi
        revert hH
        generalize w1.drew = W0
        intro hH qi qb qo
        refine tkA 0 10 hH ?_; try simp only [Act.put, sA, sZ, sS]
        refine tkA 1 11 hH ?_; try simp only [Act.put, sA, sZ, sS]
        refine tkA 2 12 hH ?_; try simp only [Act.put, sA, sZ, sS]
        refine tkA 3 13 hH ?_; try simp only [Act.put, sA, sZ, sS]
        refine tkA 4 14 hH ?_; try simp only [Act.put, sA, sZ, sS]
        refine tkA 5 15 hH ?_; try simp only [Act.put, sA, sZ, sS]
        refine tkA 6 16 hH ?_; try simp only [Act.put, sA, sZ, sS]
        refine tkA 7 17 hH ?_; try simp only [Act.put, sA, sZ, sS]
        refine tkA 8 18 hH ?_; try simp only [Act.put, sA, sZ, sS]
        refine tkA 9 19 hH ?_; try simp only [Act.put, sA, sZ, sS]
        refine tkA 10 20 hH ?_; try simp only [Act.put, sA, sZ, sS]
        refine tkA 11 21 hH ?_; try simp only [Act.put, sA, sZ, sS]
        refine tkA 12 22 hH ?_; try simp only [Act.put, sA, sZ, sS]
        refine tkA 13 23 hH ?_; try simp only [Act.put, sA, sZ, sS]
        refine tkA 14 24 hH ?_; try simp only [Act.put, sA, sZ, sS]
        refine tkA 15 25 hH ?_; try simp only [Act.put, sA, sZ, sS]
        refine tkA 16 26 hH ?_; try simp only [Act.put, sA, sZ, sS]
        refine tkA 17 27 hH ?_; try simp only [Act.put, sA, sZ, sS]
        refine tkA 18 28 hH ?_; try simp only [Act.put, sA, sZ, sS]
        refine tkA 19 29 hH ?_; try simp only [Act.put, sA, sZ, sS]
        refine tkA 20 30 hH ?_; try simp only [Act.put, sA, sZ, sS]
        refine tkA 21 31 hH ?_; try simp only [Act.put, sA, sZ, sS]
        refine tkA 22 32 hH ?_; try simp only [Act.put, sA, sZ, sS]
        refine tkA 23 33 hH ?_; try simp only [Act.put, sA, sZ, sS]
        refine tkA 24 34 hH ?_; try simp only [Act.put, sA, sZ, sS]
        refine tkA 25 35 hH ?_; try simp only [Act.put, sA, sZ, sS]
        refine wpAnyH_ready (rs := [26]) (by kernel_rfl) (by simp) ?_
        refine AllReadyH.cons rfl (fun K hK => ?_) AllReadyH.nil
        go_simp
        refine (HCB.out _ qo).mono ?_
        rintro e w3 ⟨ub, rfl, hub, hb3⟩
        have hbc := (bcell hb3).1
        have hH3 : (fun w' => (w'.cell? ⟨w.heap.size, 0, none⟩ = some (.string T.first) ∧ w'.cell? ⟨w.heap.size, 1, none⟩ = some (.string T.last) ∧ w'.cell? ⟨w.heap.size, 2, none⟩ = some vb) ∧ EntAt w' b off e0 ∧ EntAt w' b (off + m * 4) el) w3 := ⟨⟨(hbc _ _ (World.block_lt_of_cell? W0 _ hH.1.1)).trans hH.1.1, (hbc _ _ (World.block_lt_of_cell? W0 _ hH.1.2.1)).trans hH.1.2.1, (hbc _ _ (World.block_lt_of_cell? W0 _ hH.1.2.2)).trans hH.1.2.2⟩, hH.2.1.below hb3, hH.2.2.below hb3⟩
        replace qi := qi.below hb3
        replace qb := qb.trans (hb3.mono qb.size)
        refine hK.out _ _ hH3 (fun h4 => ?_)
        clear hK K hH hH3 hb3 hbc
        try simp only [Act.put, sA, sZ, sS]
        refine wpAnyH_ready (rs := [27]) (by kernel_rfl) (by simp) ?_
        refine AllReadyH.cons rfl (fun K hK => ?_) AllReadyH.nil
        go_simp
        refine (l5Same_any vb ub T.bits (bitsL es) _ qi hub.rd).mono ?_
        rw [← RES.out]
        rintro e w4 ⟨rfl, n4, rfl⟩
        refine hK.out _ _ h4 (fun h5 => ?_)
        clear hK K h4
        try simp only [Act.put, sA, sZ, sS]
        refine tkA 28 38 h5 ?_; try simp only [Act.put, sA, sZ, sS]
        refine tkA 29 2 h5 ?_; try simp only [Act.put, sA, sZ, sS]
        refine wpAnyH_done (by kernel_rfl) ?_ _
        refine NoPanic.normal ?_
        go_wp2
        go_ret
        exact ⟨rfl, below_drewN qb n4⟩
open Go.RowKit
theorem entriesL_no {T : Tbl} (h : tableOk T = false) : entriesL T = [] := by unfold entriesL; rw [if_neg (by simp [h])]
theorem entriesL_yes {T : Tbl} (h : tableOk T = true) : entriesL T = (allL T).1 := by unfold entriesL; rw [if_pos h]
theorem specEntries_any (T : Tbl) (vb vk : Value) (w : World) (hi : RdI w vb T.bits) (hr : RdS w vk T.blocks) (hz : ∀ s ∈ T.blocks, s.size ≤ 1000000000) :
    Calls Tryz.prog 94 #[.agg #[.string T.first, .string T.last, vb, vk]] w fun e w' => ∃ u, e = .returned u ∧ OwnE w' w.heap.size u (entriesL T) ∧ Below w.heap.size w w' := by
  have ht0 := tblAt_new w T vb vk 95
  have b0 := below1 w (.cells #[.string T.first, .string T.last, vb, vk] 95)
  have HALL := l5All_any T vb vk _ (hr.below b0) hz
  have HA : Hid (Calls _ _ _ _ _) := HALL
  have HOK : Hid (∀ W, RdI W vb T.bits → RdS W vk T.blocks → Calls Tryz.prog 106 #[.agg #[.string T.first, .string T.last, vb, vk]] W fun e w' => e = .returned (.bool (tableOk T)) ∧ Below W.heap.size W w') := fun W h1 h2 => specTableOk_any T vb vk W h1 h2 hz
  have HE1 : Hid (tableOk T = false → entriesL T = []) := entriesL_no
  have HE2 : Hid (tableOk T = true → entriesL T = (allL T).1) := entriesL_yes
  clear HALL
  generalize entriesL T = E at HE1 HE2 ⊢
  generalize tableOk T = ok at HOK HE1 HE2
  generalize allL T = F at HA HE2
  obtain ⟨es, is⟩ := F
  simp only at HE2
  obtain ⟨d0, d1, d2, d3⟩ := id ht0
  go_enter Tryz.func94, Tryz.ntmps94
  go_wp2_with fail
  refine HA.out.mono ?_
  rintro e w1 ⟨u, rfl, ho1, hb1⟩
  simp only at ho1 ⊢
  have ht1 := ht0.below hb1
  have b1 := b0.trans (hb1.mono b0.size)
  have hs0 := b0.size
  clear HA ht0 b0 hb1 d0 d1 d2 d3
  obtain ⟨d0, d1, d2, d3⟩ := id ht1
  go_wp2_with fail
  refine (HOK.out _ (hi.below b1) (hr.below b1)).mono ?_
  rintro e w2 ⟨rfl, hb2⟩
  have ho2 := ho1.below hb2
  have b2 := b1.trans (hb2.mono b1.size)
  cases ok with
  | false =>
    have HE : Hid (E = []) := HE1.out rfl
    go_wp2
    go_ret
    exact ⟨_, rfl, by rw [HE.out]; exact (ownE_new w2).mono b2.size, b2.alloc b2.size _⟩
  | true =>
    have HE : Hid (E = es) := HE2.out rfl
    go_wp2
    go_ret
    exact ⟨_, rfl, by rw [HE.out]; exact ho2.mono hs0, b2⟩
end Go.Proofs.YtpbbahpndgigjaaGreatDoor
