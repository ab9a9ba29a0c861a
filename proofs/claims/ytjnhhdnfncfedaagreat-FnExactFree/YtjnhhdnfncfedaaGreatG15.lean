/- The contracts of the model's TableOk and Entries and of the helpers that they call. The contract of the model's l5Built: the table of some entries. The contract of the model's Built. The contract of the law's own mark of a number, as a text. -/
import Derived.Test.YtjnhhdnfncfedaaGreatG06
import Derived.Test.YtjnhhdnfncfedaaGreatPackRead
import Derived.Test.YtjnhhdnfncfedaaGreatG03
import Derived.Test.YtjnhhdnfncfedaaGreatG00
import Derived.Deep.RegionHeld3
namespace Go.Proofs.YtjnhhdnfncfedaaGreat
open Go.RowKit
set_option maxHeartbeats 1000000 in
set_option maxRecDepth 100000 in
theorem l5Same_any (va vb : Value) (xs ys : List Int) (w : World) (ha : RdI w va xs) (hb : RdI w vb ys) :
    Calls Tryz.prog 101 #[va, vb] w fun e w' => e = .returned (.bool (decide (xs = ys))) ∧ ∃ n, w' = w.drewN n := by
  obtain ⟨aa, ca, hva, hla, hma, _⟩ := id ha
  obtain ⟨ab, cb, hvb, hlb, hmb, _⟩ := id hb
  subst hva
  subst hvb
  unfold maxLen at hma hmb
  by_cases hlen : xs.length = ys.length
  · have hne : ((xs.length : Int) != (ys.length : Int)) = false := by simp; omega
    obtain ⟨R, hR⟩ : ∃ R, R = decide (xs = ys) := ⟨_, rfl⟩
    rw [← hR]
    have HR : Hid (R = decide (xs = ys)) := hR
    have HL : Hid (xs.length = ys.length) := hlen
    clear hR hlen
    go_enter Tryz.func101, Tryz.ntmps101
    go_wp2
    go_loopw [5] (fun i wr => ∃ k : Nat, k ≤ xs.length ∧ i = .int .i64 k ∧ Hid (xs.take k = ys.take k) ∧ ∃ n, wr = w.drewN n) (fun i _ => xs.length - (intOf i).toNat)
    case atStart => exact ⟨0, Nat.zero_le _, rfl, by unfold Hid; simp, 0, rfl⟩
    case round =>
      obtain ⟨k, hk, rfl, HT, n, rfl⟩ := hrel
      by_cases hlt : k < xs.length
      · have hltb : k < ys.length := by have := HL.out; omega
        obtain ⟨b1, o1, rfl, c1⟩ := (ha.drewN n).at k hlt
        obtain ⟨b2, o2, rfl, c2⟩ := (hb.drewN n).at k hltb
        obtain ⟨x, hx⟩ : ∃ x, x = xs[k] := ⟨_, rfl⟩
        obtain ⟨y, hy⟩ : ∃ y, y = ys[k] := ⟨_, rfl⟩
        rw [← hx] at c1
        rw [← hy] at c2
        by_cases hxy : x = y
        · have hd : (x != y) = false := by simp [hxy]
          have HT2 : Hid (xs.take (k + 1) = ys.take (k + 1)) := by unfold Hid; rw [List.take_succ_eq_append_getElem hlt, List.take_succ_eq_append_getElem hltb, HT.out, ← hx, ← hy, hxy]
          clear hx hy hxy HT
          go_wp2_with fail
          refine wp_region_noPanic ?_
          refine wp_region_held_drew (S := fun w' => w'.cell? ⟨b1, o1 + k, none⟩ = some (.int .i64 x) ∧ w'.cell? ⟨b2, o2 + k, none⟩ = some (.int .i64 y)) (by kernel_rfl) ⟨c1, c2⟩ (fun hH => ?_)
          refine tkA 0 17 hH ?_
          try simp only [Act.put, List.setIfInBounds_toArray, List.set_cons_zero, List.set_cons_succ]
          refine tkA 1 18 hH ?_
          try simp only [Act.put, List.setIfInBounds_toArray, List.set_cons_zero, List.set_cons_succ]
          refine tkA 2 19 hH ?_
          try simp only [Act.put, List.setIfInBounds_toArray, List.set_cons_zero, List.set_cons_succ]
          refine tkA 3 20 hH ?_
          try simp only [Act.put, List.setIfInBounds_toArray, List.set_cons_zero, List.set_cons_succ]
          refine tkA 4 21 hH ?_
          try simp only [Act.put, List.setIfInBounds_toArray, List.set_cons_zero, List.set_cons_succ]
          refine tkA 5 22 hH ?_
          try simp only [Act.put, List.setIfInBounds_toArray, List.set_cons_zero, List.set_cons_succ]
          refine tkA 6 23 hH ?_
          try simp only [Act.put, List.setIfInBounds_toArray, List.set_cons_zero, List.set_cons_succ]
          refine tkA 7 24 hH ?_
          try simp only [Act.put, List.setIfInBounds_toArray, List.set_cons_zero, List.set_cons_succ]
          refine tkA 8 25 hH ?_
          try simp only [Act.put, List.setIfInBounds_toArray, List.set_cons_zero, List.set_cons_succ]
          refine wpAnyH_done (by kernel_rfl) ?_ _
          refine NoPanic.normal ?_
          go_wp2
          go_roundw
          case rel => exact ⟨k + 1, by omega, by go_num, HT2, n + 1, rfl⟩
          case measure => simp [intOf]; omega
        · have hd : (x != y) = true := by simp [hxy]
          have HF : Hid (R = false) := by
            unfold Hid
            rw [HR.out]
            refine decide_eq_false fun e => hxy ?_
            rw [hx, hy]
            simp only [e]
          clear hx hy hxy HT
          go_wp2_with fail
          refine wp_region_noPanic ?_
          refine wp_region_held_drew (S := fun w' => w'.cell? ⟨b1, o1 + k, none⟩ = some (.int .i64 x) ∧ w'.cell? ⟨b2, o2 + k, none⟩ = some (.int .i64 y)) (by kernel_rfl) ⟨c1, c2⟩ (fun hH => ?_)
          refine tkA 0 17 hH ?_
          try simp only [Act.put, List.setIfInBounds_toArray, List.set_cons_zero, List.set_cons_succ]
          refine tkA 1 18 hH ?_
          try simp only [Act.put, List.setIfInBounds_toArray, List.set_cons_zero, List.set_cons_succ]
          refine tkA 2 19 hH ?_
          try simp only [Act.put, List.setIfInBounds_toArray, List.set_cons_zero, List.set_cons_succ]
          refine tkA 3 20 hH ?_
          try simp only [Act.put, List.setIfInBounds_toArray, List.set_cons_zero, List.set_cons_succ]
          refine tkA 4 21 hH ?_
          try simp only [Act.put, List.setIfInBounds_toArray, List.set_cons_zero, List.set_cons_succ]
          refine tkA 5 22 hH ?_
          try simp only [Act.put, List.setIfInBounds_toArray, List.set_cons_zero, List.set_cons_succ]
          refine tkA 6 23 hH ?_
          try simp only [Act.put, List.setIfInBounds_toArray, List.set_cons_zero, List.set_cons_succ]
          refine tkA 7 24 hH ?_
          try simp only [Act.put, List.setIfInBounds_toArray, List.set_cons_zero, List.set_cons_succ]
          refine tkA 8 25 hH ?_
          try simp only [Act.put, List.setIfInBounds_toArray, List.set_cons_zero, List.set_cons_succ]
          refine wpAnyH_done (by kernel_rfl) ?_ _
          refine NoPanic.normal ?_
          go_wp2
          go_ret
          exact ⟨by have h := HF.out; subst h; rfl, n + 1, rfl⟩
      · have HF : Hid (R = true) := by
          unfold Hid
          rw [HR.out]
          have := HT.out
          rw [List.take_of_length_le (by omega), List.take_of_length_le (by have := HL.out; omega)] at this
          exact decide_eq_true this
        have hlt2 : ¬ (k : Int) < (xs.length : Int) := by omega
        go_wp2
        go_ret
        exact ⟨by have h := HF.out; subst h; rfl, n, rfl⟩
  · have hne : ((xs.length : Int) != (ys.length : Int)) = true := by simp; omega
    have HF : Hid (decide (xs = ys) = false) := decide_eq_false fun e => hlen (by rw [e])
    rw [HF.out]
    clear hlen
    go_enter Tryz.func101, Tryz.ntmps101
    go_wp2
    go_ret
    exact ⟨rfl, 0, rfl⟩
/-- The table T lies at block b, its numbers behind vb and its blocks behind vk. -/
def TblAt (w : World) (b : Nat) (T : Tbl) (vb vk : Value) : Prop :=
  w.cell? ⟨b, 0, none⟩ = some (.string T.first) ∧ w.cell? ⟨b, 1, none⟩ = some (.string T.last) ∧ w.cell? ⟨b, 2, none⟩ = some vb ∧ w.cell? ⟨b, 3, none⟩ = some vk
theorem TblAt.lt {w : World} {b : Nat} {T : Tbl} {vb vk : Value} (h : TblAt w b T vb vk) : b < w.heap.size := World.block_lt_of_cell? w _ h.1
theorem TblAt.of_block {w w' : World} {b : Nat} {T : Tbl} {vb vk : Value} (h : TblAt w b T vb vk) (hb : w'.heap[b]? = w.heap[b]?) : TblAt w' b T vb vk :=
  ⟨(World.cell?_of_block (a := ⟨b, 0, none⟩) hb).trans h.1, (World.cell?_of_block (a := ⟨b, 1, none⟩) hb).trans h.2.1, (World.cell?_of_block (a := ⟨b, 2, none⟩) hb).trans h.2.2.1, (World.cell?_of_block (a := ⟨b, 3, none⟩) hb).trans h.2.2.2⟩
theorem TblAt.below {w w' : World} {b : Nat} {T : Tbl} {vb vk : Value} (h : TblAt w b T vb vk) (hb : Below w.heap.size w w') : TblAt w' b T vb vk := h.of_block (hb.block b h.lt)
theorem tblAt_new (W : World) (T : Tbl) (vb vk : Value) (t : TypeId) : TblAt (W.alloc (.cells #[.string T.first, .string T.last, vb, vk] t)) W.heap.size T vb vk :=
  ⟨by simp [World.cell?_alloc_at], by simp [World.cell?_alloc_at], by simp [World.cell?_alloc_at], by simp [World.cell?_alloc_at]⟩
theorem unpPost_is {w wr : World} {B : Nat} {F : List Ent × Bool} {u : Value} {es : List Ent} {ok : Bool} (h : F = (es, ok)) (ho : OwnE wr B u es) (hB : w.heap.size ≤ B) (hb : Below w.heap.size w wr) : UnpPost w F (.returned (.tuple #[u, .bool ok])) wr := by
  subst h; exact ⟨u, rfl, ho.mono hB, hb⟩
theorem RdS.at {w : World} {a : Option Addr} {n cap : Nat} {ss : List ByteArray} (h : RdS w (.slice a n cap) ss) (i : Nat) (hi : i < ss.length) : ∃ b off, a = some ⟨b, off, none⟩ ∧ w.cell? ⟨b, off + i, none⟩ = some (.string ss[i]) := by
  obtain ⟨a', cap', hv, _, _, h3⟩ := h
  simp only [Value.slice.injEq] at hv
  obtain ⟨rfl, _, _⟩ := hv
  rcases h3 with rfl | ⟨b, off, ha, hc⟩
  · simp at hi
  · exact ⟨b, off, ha, hc i hi⟩
theorem allF_no {b : ByteArray} {r : List ByteArray} {acc : List Ent} (h : ¬ ((unpI b.data.toList).2 = true ∧ 1 ≤ (unpI b.data.toList).1.length ∧ (unpI b.data.toList).1.length ≤ 8)) : allF (b :: r) acc = none := by rw [allF, if_neg h]
theorem allF_go {b : ByteArray} {r : List ByteArray} {acc : List Ent} (h : (unpI b.data.toList).2 = true ∧ 1 ≤ (unpI b.data.toList).1.length ∧ (unpI b.data.toList).1.length ≤ 8) : allF (b :: r) acc = allF r (acc ++ (unpI b.data.toList).1) := by rw [allF, if_pos h]
theorem unpI_fits (bs : List UInt8) : ∀ x ∈ (unpI bs).1, Fits x := by
  cases h : unpI bs with
  | mk es ok =>
    cases ok with
    | true =>
      intro x hx
      have := okE_parts (okL_all (unpI_back h).1 x hx)
      exact ⟨by omega, by omega, by omega, by omega⟩
    | false => rw [unpI_no h]; intro x hx; cases hx
theorem specUnp_any (v : Value) (bs : List UInt8) (w : World) (hr : Rd w v bs) : Calls Tryz.prog 100 #[v] w fun e w' => UnpPost w (unpI bs) e w' := by rw [← unp_same]; exact specUnpacked_any v bs w hr
set_option maxHeartbeats 4000000 in
set_option maxRecDepth 100000 in
theorem l5All_any (T : Tbl) (vb vk : Value) (w : World) (hr : RdS w vk T.blocks) (hz : ∀ s ∈ T.blocks, s.size ≤ 1000000000) :
    Calls Tryz.prog 83 #[.agg #[.string T.first, .string T.last, vb, vk]] w fun e w' => UnpPost w (allL T) e w' := by
  obtain ⟨ak, ck, hvk, hl, hm, _⟩ := id hr
  obtain ⟨kn, hkn⟩ : ∃ kn, kn = T.blocks.length := ⟨_, rfl⟩
  have HKN : Hid (kn = T.blocks.length) := hkn
  rw [← hkn] at hl hvk
  subst hvk
  clear hkn
  unfold maxLen at hm
  have HZ : Hid (∀ s ∈ T.blocks, s.size ≤ 1000000000) := hz
  clear hz
  have ht0 := tblAt_new w T vb (.slice ak kn ck) 85
  have b0 := below1 w (.cells #[.string T.first, .string T.last, vb, .slice ak kn ck] 85)
  obtain ⟨F, hF⟩ : ∃ F, F = allL T := ⟨_, rfl⟩
  rw [← hF]
  have HF : Hid (F = allL T) := hF
  clear hF
  obtain ⟨d0, d1, d2, d3⟩ := id ht0
  by_cases hbad : kn < 1 ∨ 40 < kn
  · have RES : Hid (F = ([], false)) := by unfold Hid; rw [HF.out]; unfold allL; rw [← HKN.out, if_pos hbad]
    have hoE := ownE_none (w.alloc (.cells #[.string T.first, .string T.last, vb, .slice ak kn ck] 85))
    rw [show (w.alloc (.cells #[.string T.first, .string T.last, vb, .slice ak kn ck] 85)).heap.size = w.heap.size + 1 by simp] at hoE
    rcases hbad with hb1 | hb1
    · have hd1 : decide ((kn : Int) < 1) = true := by simp; omega
      go_enter Tryz.func83, Tryz.ntmps83
      go_wp2
      go_ret2
      exact unpPost_no RES.out hoE (Nat.le_succ _) (b0.alloc b0.size _)
    · have hd1 : decide ((kn : Int) < 1) = false := by simp; omega
      have hd2 : decide (40 < (kn : Int)) = true := by simp; omega
      go_enter Tryz.func83, Tryz.ntmps83
      go_wp2
      go_ret2
      exact unpPost_no RES.out hoE (Nat.le_succ _) (b0.alloc b0.size _)
  obtain ⟨res, hres⟩ : ∃ res, res = allF T.blocks [] := ⟨_, rfl⟩
  have HR0 : Hid (allF (T.blocks.drop 0) [] = res) := by rw [List.drop_zero]; exact hres.symm
  have R0 : Hid (res = none → F = ([], false)) := fun h => by rw [HF.out]; unfold allL; rw [← HKN.out, if_neg hbad, ← hres, h]
  have R1 : Hid (∀ es, res = some es → F = (es, okL es)) := fun es h => by rw [HF.out]; unfold allL; rw [← HKN.out, if_neg hbad, ← hres, h]
  clear hres HF
  have hk1 : 1 ≤ kn := by omega
  have hk2 : kn ≤ 40 := by omega
  have hd1 : decide ((kn : Int) < 1) = false := by simp; omega
  have hd2 : decide (40 < (kn : Int)) = false := by simp; omega
  have hoE := ownE_none (w.alloc (.cells #[.string T.first, .string T.last, vb, .slice ak kn ck] 85))
  have b1 := b0.alloc b0.size (.cells #[] 55)
  have ht1 := ht0.below (below1 _ (.cells #[] 55))
  rw [show (w.alloc (.cells #[.string T.first, .string T.last, vb, .slice ak kn ck] 85)).heap.size = w.heap.size + 1 by simp] at hoE
  clear hbad
  go_enter Tryz.func83, Tryz.ntmps83
  go_wp2
  clear d0 d1 d2 d3
  go_loopw [4, 5] (fun u i wr => ∃ (k : Nat) (es : List Ent), k ≤ kn ∧ i = .int .i64 k ∧ Hid (allF (T.blocks.drop k) es = res) ∧ es.length ≤ 8 * k ∧ Hid (∀ x ∈ es, Fits x) ∧ OwnE wr (w.heap.size + 1) u es ∧ TblAt wr w.heap.size T vb (.slice ak kn ck) ∧ Below w.heap.size w wr) (fun _ i _ => kn - (intOf i).toNat)
  case atStart => exact ⟨0, [], Nat.zero_le _, rfl, HR0, Nat.zero_le _, (fun x hx => by cases hx), hoE, ht1, b1⟩
  case round =>
    obtain ⟨k, es, hk, rfl, HA, hel, HFT, ho, ht, hb⟩ := hrel
    clear hoE b1 ht1 ht0 b0 HR0
    obtain ⟨d0, d1, d2, d3⟩ := id ht
    by_cases hlt : k < kn
    · have hltb : k < T.blocks.length := by rw [← HKN.out]; exact hlt
      obtain ⟨b, off, rfl, hcs⟩ := (hr.below hb).at k hltb
      obtain ⟨s, hs⟩ : ∃ s, s = T.blocks[k] := ⟨_, rfl⟩
      rw [← hs] at hcs
      have hsz : s.size ≤ 1000000000 := by rw [hs]; exact HZ.out _ (List.getElem_mem hltb)
      have HA2 : Hid (allF (s :: T.blocks.drop (k + 1)) es = res) := by rw [hs, ← List.drop_eq_getElem_cons hltb]; exact HA
      clear hs HA
      have hcb := conv_bytes wr s
      have hrd := bytes_rd wr s (by unfold maxLen; omega)
      have hbb := bytes_below wr s
      generalize Lib.bytesWorld wr 5 s = W at hcb hrd hbb
      generalize grownCap wr s.size 0 5 = c0 at hcb hrd
      obtain ⟨F2, hF2⟩ : ∃ F2, F2 = unpI s.data.toList := ⟨_, rfl⟩
      have HCU : Hid (Calls Tryz.prog 100 #[.slice (some ⟨wr.heap.size, 0, none⟩) s.size c0] W fun e w' => UnpPost W F2 e w') := by rw [hF2]; exact specUnp_any _ _ _ hrd
      have HFF : Hid (∀ x ∈ F2.1, Fits x) := by rw [hF2]; exact unpI_fits _
      have HNO : Hid (¬ (F2.2 = true ∧ 1 ≤ F2.1.length ∧ F2.1.length ≤ 8) → F = ([], false)) := fun h => R0.out (by rw [← HA2.out]; exact allF_no (by rw [← hF2]; exact h))
      have HGO : Hid (F2.2 = true ∧ 1 ≤ F2.1.length ∧ F2.1.length ≤ 8 → allF (T.blocks.drop (k + 1)) (es ++ F2.1) = res) := fun h => by rw [← HA2.out, allF_go (by rw [← hF2]; exact h), ← hF2]
      clear hF2 hrd HA2
      obtain ⟨l, is⟩ := F2
      have ho2 := ho.below hbb
      have ht2 := ht.below hbb
      have b2 := hb.trans (hbb.mono hb.size)
      clear ho ht hb hbb
      go_wp2_with fail
      refine HCU.out.mono ?_
      rintro e w3 ⟨ul, rfl, hl3, hb3⟩
      simp only at hl3 HNO HGO HFF ⊢
      have ho3 := ho2.below hb3
      have ht3 := ht2.below hb3
      have b3 := b2.trans (hb3.mono b2.size)
      clear ho2 ht2 b2 hb3 HCU hcb d0 d1 d2 d3 hcs
      obtain ⟨al, cl, hvl, hl1, hl2, _⟩ := id hl3.rd
      obtain ⟨ln, hln⟩ : ∃ ln, ln = l.length := ⟨_, rfl⟩
      rw [← hln] at hvl hl1 HNO HGO
      have HLN : Hid (ln = l.length) := hln
      subst hvl
      unfold maxLen at hl2
      clear hln
      cases is with
      | false =>
        have RES : Hid (F = ([], false)) := HNO.out (by simp)
        go_wp2
        go_ret2
        exact unpPost_no RES.out (ownE_new w3) b3.size (b3.alloc b3.size _)
      | true =>
        by_cases q1 : ln < 1
        · skip
          have RES : Hid (F = ([], false)) := HNO.out (by omega)
          have q1d : decide ((ln : Int) < 1) = true := by simp; omega
          go_wp2
          go_ret2
          exact unpPost_no RES.out (ownE_new w3) b3.size (b3.alloc b3.size _)
        · have q1d : decide ((ln : Int) < 1) = false := by simp; omega
          by_cases q2 : 8 < ln
          · skip
            have RES : Hid (F = ([], false)) := HNO.out (by omega)
            have q2d : decide (8 < (ln : Int)) = true := by simp; omega
            go_wp2
            go_ret2
            exact unpPost_no RES.out (ownE_new w3) b3.size (b3.alloc b3.size _)
          · skip
            have q2d : decide (8 < (ln : Int)) = false := by simp; omega
            have HA4 : Hid (allF (T.blocks.drop (k + 1)) (es ++ l) = res) := HGO.out ⟨rfl, by omega, by omega⟩
            have HFT4 : Hid (∀ x ∈ es ++ l, Fits x) := fun x hx => by
              rcases List.mem_append.1 hx with h | h
              · exact HFT.out x h
              · exact HFF.out x h
            have hel4 : (es ++ l).length ≤ 8 * (k + 1) := by rw [List.length_append, ← HLN.out]; omega
            go_wp2_with (at_builtin; (refine wpList_append_ents rfl _ _ rfl (w.heap.size + 1) _ _ es l rfl rfl ho3 hl3.rd (by rw [← HLN.out]; omega) ht3.lt ?_))
            intro v5 w5 ho5 hg5
            have b5 := b3.grown hg5 b3.size (fun j hj => Nat.le_of_succ_le (World.ownsRow.lt ho3 j hj).1)
            have ht5 : TblAt w5 w.heap.size T vb (.slice (some ⟨b, off, none⟩) kn ck) := ht3.of_block (hg5.block _ ht3.lt (fun e => by have := (World.ownsRow.lt ho3 _ e.symm).1; omega))
            clear ho3 ht3 b3 hl3 hg5
            go_wp2
            go_roundw
            case rel => exact ⟨k + 1, es ++ l, by omega, by go_num, HA4, hel4, HFT4, ho5, ht5, b5⟩
            case measure => simp [intOf]; omega
    · skip
      have hke : k = kn := by omega
      have RES : Hid (F = (es, okL es)) := R1.out es (by have := HA.out; rw [hke, HKN.out, List.drop_eq_nil_of_le (Nat.le_refl _), allF] at this; exact this.symm)
      have hlt2 : ¬ (k : Int) < (kn : Int) := by omega
      clear hke HA
      go_wp2_with fail
      refine (specEntriesOk_any _ es _ ho.rd HFT.out).mono ?_
      rintro e w3 ⟨rfl, hb3⟩
      have ho3 := ho.below hb3
      have b3 := hb.trans (hb3.mono hb.size)
      generalize okL es = ok at RES ⊢
      go_wp2
      go_ret2
      exact unpPost_is RES.out ho3 (Nat.le_succ _) b3
end Go.Proofs.YtjnhhdnfncfedaaGreat
namespace Go.Proofs.YtjnhhdnfncfedaaGreat
open Go.RowKit
/-- A table's box at block b. -/
def BoxT (w : World) (b : Nat) (f l : ByteArray) (vb vk : Value) : Prop := w.heap[b]? = some (.cells #[.string f, .string l, vb, vk] 85 (0, 0))
theorem BoxT.lt {w : World} {b : Nat} {f l : ByteArray} {vb vk : Value} (h : BoxT w b f l vb vk) : b < w.heap.size := (Array.getElem?_eq_some_iff.1 h).1
theorem BoxT.block {w w' : World} {b : Nat} {f l : ByteArray} {vb vk : Value} (h : BoxT w b f l vb vk) (hb : w'.heap[b]? = w.heap[b]?) : BoxT w' b f l vb vk := hb.trans h
theorem BoxT.below {w w' : World} {b : Nat} {f l : ByteArray} {vb vk : Value} (h : BoxT w b f l vb vk) (hb : Below w.heap.size w w') : BoxT w' b f l vb vk := h.block (hb.block b h.lt)
theorem BoxT.facts {w : World} {b : Nat} {f l : ByteArray} {vb vk : Value} (h : BoxT w b f l vb vk) : w.cell? ⟨b, 0, none⟩ = some (.string f) ∧ w.cell? ⟨b, 1, none⟩ = some (.string l) ∧ w.cell? ⟨b, 2, none⟩ = some vb ∧ w.cell? ⟨b, 3, none⟩ = some vk ∧
    w.frozen? ⟨b, 0, none⟩ = false ∧ w.frozen? ⟨b, 1, none⟩ = false ∧ w.frozen? ⟨b, 2, none⟩ = false ∧ w.frozen? ⟨b, 3, none⟩ = false := by
  unfold BoxT at h
  refine ⟨?_, ?_, ?_, ?_, ?_, ?_, ?_, ?_⟩ <;> simp [World.cell?, World.frozen?, h]
theorem boxT_new (w : World) (f l : ByteArray) (vb vk : Value) : BoxT (w.alloc (.cells #[.string f, .string l, vb, vk] 85)) w.heap.size f l vb vk := heap_alloc_new w _
theorem boxT_set4 {w : World} {b : Nat} {f l f' l' : ByteArray} {vb vk vb' vk' : Value} (h : BoxT w b f l vb vk) : BoxT ((((w.setCell ⟨b, 0, none⟩ (.string f')).setCell ⟨b, 1, none⟩ (.string l')).setCell ⟨b, 2, none⟩ vb').setCell ⟨b, 3, none⟩ vk') b f' l' vb' vk' := by
  unfold BoxT at h ⊢
  have h1 := heap_setCell_same w b 0 _ _ (.string f') h
  have h2 := heap_setCell_same _ b 1 _ _ (.string l') h1
  have h3 := heap_setCell_same _ b 2 _ _ vb' h2
  have h4 := heap_setCell_same _ b 3 _ _ vk' h3
  exact h4
theorem boxT_set3 {w : World} {b : Nat} {f l : ByteArray} {vb vk vk' : Value} (h : BoxT w b f l vb vk) : BoxT (w.setCell ⟨b, 3, none⟩ vk') b f l vb vk' := by
  unfold BoxT at h ⊢
  exact heap_setCell_same w b 3 _ _ vk' h
theorem boxT_row {w : World} {B b t s n : Nat} {f l : ByteArray} {vb vk v : Value} {xs : List Value} (h : BoxT w b f l vb vk) (ho : w.ownsRow B t s v n xs) (ht : t ≠ 85) : ∀ k, v.ownBlock = some k → b ≠ k := by
  intro k hk e
  subst e
  rcases ho.2 with ⟨rfl, _⟩ | ⟨g, cap, cur, rfl, _, hg, _⟩
  · simp [Value.ownBlock] at hk
  · obtain rfl : g = b := by simpa [Value.ownBlock] using hk
    unfold BoxT at h
    rw [h] at hg
    injection hg with hg
    injection hg with _ h2
    exact ht h2.symm
theorem row_set {w : World} {B t s n c j : Nat} {v u : Value} {xs : List Value} (ho : w.ownsRow B t s v n xs) (hc : ∀ k, v.ownBlock = some k → c ≠ k) : (w.setCell ⟨c, j, none⟩ u).ownsRow B t s v n xs :=
  row_kept ho (⟨rfl, rfl, rfl, by simp, fun k _ hk => heap_setCell_other w ⟨c, j, none⟩ k u (fun e => hk (by simp [e]))⟩ : w.grownBy (w.setCell ⟨c, j, none⟩ u) (some c)) (fun k hk e => hc k hk (Option.some.inj e))
theorem entAt_set4 {w : World} {b o c : Nat} {e : Ent} (h : EntAt w b o e) (hne : b ≠ c) (u0 u1 u2 u3 : Value) (i j k l : Nat) : EntAt ((((w.setCell ⟨c, i, none⟩ u0).setCell ⟨c, j, none⟩ u1).setCell ⟨c, k, none⟩ u2).setCell ⟨c, l, none⟩ u3) b o e :=
  h.of_block ((heap_setCell_other _ ⟨c, l, none⟩ b u3 hne).trans ((heap_setCell_other _ ⟨c, k, none⟩ b u2 hne).trans ((heap_setCell_other _ ⟨c, j, none⟩ b u1 hne).trans (heap_setCell_other w ⟨c, i, none⟩ b u0 hne))))
theorem rows_apart {w : World} {B1 B2 t1 t2 s1 s2 n1 n2 : Nat} {v1 v2 : Value} {xs ys : List Value} (h1 : w.ownsRow B1 t1 s1 v1 n1 xs) (h2 : w.ownsRow B2 t2 s2 v2 n2 ys) (ht : t1 ≠ t2) : ∀ k, v1.ownBlock = some k → v2.ownBlock = some k → False := by
  intro k hk1 hk2
  rcases h1.2 with ⟨rfl, _⟩ | ⟨g, cap, cur, rfl, _, hg, _⟩
  · simp [Value.ownBlock] at hk1
  · rcases h2.2 with ⟨rfl, _⟩ | ⟨g2, cap2, cur2, rfl, _, hg2, _⟩
    · simp [Value.ownBlock] at hk2
    · obtain rfl : g = k := by simpa [Value.ownBlock] using hk1
      obtain rfl : g2 = g := by simpa [Value.ownBlock] using hk2
      rw [hg] at hg2
      injection hg2 with hg2
      injection hg2 with _ h3
      exact ht h3
/-- append of one text onto a row of the call's own. -/
theorem run_append_txt1 (ty : TypeId) {w : World} {base bP : Nat} {v : Value} {ys : List ByteArray} {x : ByteArray} (hown : OwnS w base v ys) (hc : w.cell? ⟨bP, 0, none⟩ = some (.string x)) (hl : ys.length ≤ 1000000) (hbase : base ≤ w.heap.size) :
    ∃ v' w', (Builtin.append_ #[80, 80] ty #[v, .slice (some ⟨bP, 0, none⟩) 1 1]).run Tryz.prog w = .ok v' w' ∧ OwnS w' base v' (ys ++ [x]) ∧ w.grownBy w' v.ownBlock := by
  obtain ⟨i0, hi, hz0, hz1, hz2⟩ := info_parts Tryz.info9
  obtain ⟨v', w', hrun, r1, r2, _⟩ := run_append_own (P := Tryz.prog) w base 80 ty 9 i0 _ 1 16 Tryz.underlying80 hi hz0 hz1 hz2 rfl (by decide) v ys.length (SV ys) hown ⟨bP, 0, none⟩ 1 1 [.string x] rfl (fun j u hj => by
    match j, hj with
    | 0, hj => simp at hj; subst hj; exact hc) (fun u hu => by simp at hu; subst hu; rfl) (by unfold maxLen; omega) (by omega) hbase
  exact ⟨v', w', hrun, ownS_push r1, r2⟩
theorem step_append_txt1 {w : World} {ops : Array Oper} {o : Oper} {a : Act} {K : Act → World → Prop} {Q : Exit → Act → World → Prop} {E : Prop} (hgd : o.guard = none) (d : Nat) (hd : o.dst = some d) (s x : Operand)
    (ho : o.op = .call { callee := .builtin .append, args := #[s, x], argTypes := #[80, 80] }) (base bP : Nat) (v : Value) (ys : List ByteArray) (y : ByteArray) (hs : a.eval s = v) (hx : a.eval x = .slice (some ⟨bP, 0, none⟩) 1 1) (hown : OwnS w base v ys) (hc : w.cell? ⟨bP, 0, none⟩ = some (.string y)) (hl : ys.length ≤ 1000000) (hbase : base ≤ w.heap.size)
    (h : ∀ v' w', OwnS w' base v' (ys ++ [y]) → w.grownBy w' v.ownBlock → K (a.put (some d) v') w') :
    if Region.wanted o (yielded ops a.tmps) = true then Oper.wp Tryz.prog o a w K Q else E := by
  have hw : Region.wanted o (yielded ops a.tmps) = true := by simp [Region.wanted, hgd]
  rw [if_pos hw]
  obtain ⟨v', w', hrun, r1, r2⟩ := run_append_txt1 o.type hown hc hl hbase
  unfold Oper.wp
  simp [execOp, ho, resolve, invoke, builtin, hs, hx, hrun, Result.andThen]
  have h' := h v' w' r1 r2
  rw [← hd] at h'
  exact h'
/-- What makes a table leaves. -/
def TabPost (w : World) (T : Tbl) (e : Ending) (w' : World) : Prop :=
  ∃ vb vk, e = .returned (.agg #[.string T.first, .string T.last, vb, vk]) ∧ OwnI w' w.heap.size vb T.bits ∧ OwnS w' w.heap.size vk T.blocks ∧ Below w.heap.size w w'
theorem rdE_sub {w : World} {b off n cap i k : Nat} {es : List Ent} (h : RdE w (.slice (some ⟨b, off, none⟩) n cap) es) (hi : i ≤ k) (hk : k ≤ es.length) (hlt : i < cap) : RdE w (.slice (some ⟨b, off + i * 4, none⟩) (k - i) (cap - i)) ((es.drop i).take (k - i)) := by
  obtain ⟨a', cap', hv, h1, h2, h0, h3⟩ := h
  simp only [Value.slice.injEq] at hv
  obtain ⟨rfl, _, rfl⟩ := hv
  have hl : ((es.drop i).take (k - i)).length = k - i := by rw [List.length_take, List.length_drop]; omega
  refine ⟨_, _, by rw [hl], by omega, by omega, (fun h => by cases h), ?_⟩
  rcases h3 with rfl | ⟨b', off', ha, hc⟩
  · exact .inl (by simp)
  · cases ha
    refine .inr ⟨b, off + i * 4, rfl, fun j hj => ?_⟩
    have hn : nth ((es.drop i).take (k - i)) j = nth es (i + j) := by
      rw [nth_eq hj, nth_eq (by omega), List.getElem_take, List.getElem_drop]
    rw [hn, show off + i * 4 + j * 4 = off + (i + j) * 4 by omega]
    exact hc (i + j) (by omega)
theorem blkF_at (es : List Ent) {n i : Nat} : blkF es (n + 1) i = ⟨(packA (chunk es i)).toArray⟩ :: blkF es n (i + 8) := rfl
end Go.Proofs.YtjnhhdnfncfedaaGreat
namespace Go.Proofs.YtjnhhdnfncfedaaGreat
open Go.RowKit
/-- What Built leaves. -/
def BuiltPost (w : World) (T : Tbl) (ok : Bool) (e : Ending) (w' : World) : Prop :=
  ∃ vb vk, e = .returned (.tuple #[.agg #[.string T.first, .string T.last, vb, vk], .bool ok]) ∧ OwnI w' w.heap.size vb T.bits ∧ OwnS w' w.heap.size vk T.blocks ∧ Below w.heap.size w w'
theorem ownI_zero (w : World) (B : Nat) : OwnI w B (.slice none 0 0) [] := ⟨rfl, .inl ⟨rfl, rfl⟩⟩
theorem ownS_zero (w : World) (B : Nat) : OwnS w B (.slice none 0 0) [] := ⟨rfl, .inl ⟨rfl, rfl⟩⟩
theorem builtPost_no {w W : World} {es : List Ent} (h : builtOk es = false) (hb : Below w.heap.size w W) : BuiltPost w (builtL es) (builtOk es) (.returned (.tuple #[.agg #[.string ⟨#[]⟩, .string ⟨#[]⟩, .slice none 0 0, .slice none 0 0], .bool false])) W := by
  unfold builtL
  rw [h, if_neg (by simp)]
  exact ⟨_, _, rfl, ownI_zero _ _, ownS_zero _ _, hb⟩
theorem builtPost_yes {w W : World} {es : List Ent} {vb vk : Value} (h : builtOk es = true) (hi : OwnI W w.heap.size vb (builtT es).bits) (hk : OwnS W w.heap.size vk (builtT es).blocks) (hb : Below w.heap.size w W) : BuiltPost w (builtL es) (builtOk es) (.returned (.tuple #[.agg #[.string (builtT es).first, .string (builtT es).last, vb, vk], .bool true])) W := by
  unfold builtL
  rw [h, if_pos rfl]
  exact ⟨_, _, rfl, hi, hk, hb⟩
end Go.Proofs.YtjnhhdnfncfedaaGreat
namespace Go.Proofs.YtjnhhdnfncfedaaGreat
open Go.RowKit
/-- The digits of k ahead of acc. -/
def digs (k : Nat) (acc : List UInt8) : List UInt8 := if h : k = 0 then acc else digs (k / 10) (UInt8.ofNat (48 + k % 10) :: acc)
theorem digs_zero (acc : List UInt8) : digs 0 acc = acc := by rw [digs, dif_pos rfl]
theorem digs_step (k : Nat) (h : 0 < k) (acc : List UInt8) : digs k acc = digs (k / 10) (UInt8.ofNat (48 + k % 10) :: acc) := by rw [digs, dif_neg (by omega)]
/-- The law's mark number k. -/
def mk (k : Nat) : ByteArray := ⟨((109 : UInt8) :: digs k []).toArray⟩
set_option maxHeartbeats 400000 in
set_option maxRecDepth 100000 in
theorem markText_any (k : Nat) (w : World) (h0 : 0 < k) (h1 : k ≤ 4194304) :
    Calls Tryz.prog 42 #[.int .i64 (k : Int)] w fun e w' => e = .returned (.string (mk k)) ∧ Below w.heap.size w w' := by
  go_enter Tryz.func42, Tryz.ntmps42
  go_wp2
  go_loopw [0, 3] (fun n v wr => ∃ (m : Nat) (ys : List UInt8), n = .int .i64 m ∧ m ≤ 4194304 ∧ v = .string ⟨ys.toArray⟩ ∧ ys.length + m ≤ 4194304 ∧ Hid (digs m ys = digs k []) ∧ Below w.heap.size w wr) (fun n _ _ => (intOf n).toNat)
  case atStart => exact ⟨k, [], rfl, h1, rfl, by simp; omega, rfl, Below.refl _ _⟩
  case round =>
    obtain ⟨m, ys, rfl, hm, rfl, hy, he, hb⟩ := hrel
    have hs := hb.size
    by_cases hlt : 0 < m
    · have hcv := conv_one wr (UInt8.ofNat (48 + m % 10)) (48 + (m : Int) % 10) (dig_toNat m)
      generalize hd : UInt8.ofNat (48 + m % 10) = d at hcv
      have hadd : ∀ w', (Op.stringOp .add ⟨#[d]⟩ ⟨ys.toArray⟩).run Tryz.prog w' = .ok (.string ⟨(d :: ys).toArray⟩) w' := fun w' => run_string_add_lists w' [d] ys (by simp) (by omega)
      have HE : Hid (digs (m / 10) (d :: ys) = digs k []) := by show _ = _; rw [← hd, ← digs_step m hlt]; exact he.out
      have R2 : Below w.heap.size w (wr.alloc (.cells #[.int .u8 (48 + (m : Int) % 10)] 5)) := hb.alloc hs _
      clear hd he hb
      go_wp2
      go_roundw
      case rel => exact ⟨m / 10, d :: ys, by go_num, by omega, by simp, by simp only [List.length_cons]; omega, HE, R2⟩
      case measure => simp [intOf]; omega
    · have hm0 : m = 0 := by omega
      subst hm0
      have HE : Hid (ys = digs k []) := by show _ = _; rw [← he.out, digs_zero]
      have hadd : ∀ w', (Op.stringOp .add ⟨#[109]⟩ ⟨ys.toArray⟩).run Tryz.prog w' = .ok (.string ⟨((109 : UInt8) :: ys).toArray⟩) w' := fun w' => run_string_add_lists w' [109] ys (by simp) (by omega)
      clear he
      go_wp2
      go_ret
      refine ⟨?_, hb⟩
      unfold mk
      rw [← HE.out]
      simp
theorem markText_at (x : Int) (k : Nat) (w : World) (hx : x = (k : Int)) (h0 : 0 < k) (h1 : k ≤ 4194304) :
    Calls Tryz.prog 42 #[.int .i64 x] w fun e w' => e = .returned (.string (mk k)) ∧ Below w.heap.size w w' := by
  subst hx; exact markText_any k w h0 h1

end Go.Proofs.YtjnhhdnfncfedaaGreat
