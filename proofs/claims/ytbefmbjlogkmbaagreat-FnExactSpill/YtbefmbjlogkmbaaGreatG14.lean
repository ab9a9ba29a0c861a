/- The contract of the model's Built. The contract of the law's own mark of a number, as a text. The contracts of the laws' own helpers over slices of numbers: copied, alike, marked, held. The contracts of the laws' own helpers over slices of texts, over MarkText: alike, marked, held. The contracts of the law's measure and copy of a slice of texts. -/
import Derived.Test.YtbefmbjlogkmbaaGreatTabSpec5
import Derived.Deep.RegionHeld3
import Derived.BigQuiet
import Derived.Deep.RegionWith
namespace Go.Proofs.YtbefmbjlogkmbaaGreat
set_option maxHeartbeats 16000000
set_option maxRecDepth 100000
open Go.RowKit
def BuiltPost (w : World) (T : Tbl) (ok : Bool) (e : Ending) (w' : World) : Prop :=
  ∃ vb vk, e = .returned (.tuple #[.agg #[.string T.first, .string T.last, vb, vk], .bool ok]) ∧ OwnI w' w.heap.size vb T.bits ∧ OwnS w' w.heap.size vk T.blocks ∧ Below w.heap.size w w'
theorem ownI_zero (w : World) (B : Nat) : OwnI w B (.slice none 0 0) [] := ⟨rfl, .inl ⟨rfl, rfl⟩⟩
theorem ownS_zero (w : World) (B : Nat) : OwnS w B (.slice none 0 0) [] := ⟨rfl, .inl ⟨rfl, rfl⟩⟩
theorem builtPost_no {w W : World} {es : List Ent} (h : builtOk es = false) (hb : Below w.heap.size w W) : BuiltPost w (builtL es) (builtOk es) (.returned (.tuple #[.agg #[.string ⟨#[]⟩, .string ⟨#[]⟩, .slice none 0 0, .slice none 0 0], .bool false])) W := by
  unfold builtL
  rw [h, if_neg (by simp)]
  exact ⟨_, _, rfl, ownI_zero _ _, ownS_zero _ _, hb⟩
theorem builtPost_yes {w W : World} {es : List Ent} {vb vk : Value} (h : builtOk es = true) (hi : OwnI W w.heap.size vb (builtT es).bits) (hk : OwnS W w.heap.size vk (builtT es).blocks) (hb : Below w.heap.size w W) : BuiltPost w (builtL es) (builtOk es) (.returned (.tuple #[.agg #[.string (builtT es).first, .string (builtT es).last, vb, vk], .bool true])) W := by
  unfold builtL
  rw [h, if_pos rfl]
  exact ⟨_, _, rfl, hi, hk, hb⟩
open Go.RowKit
def digs (k : Nat) (acc : List UInt8) : List UInt8 := if h : k = 0 then acc else digs (k / 10) (UInt8.ofNat (48 + k % 10) :: acc)
theorem digs_zero (acc : List UInt8) : digs 0 acc = acc := by rw [digs, dif_pos rfl]
theorem digs_step (k : Nat) (h : 0 < k) (acc : List UInt8) : digs k acc = digs (k / 10) (UInt8.ofNat (48 + k % 10) :: acc) := by rw [digs, dif_neg (by omega)]
def mk (k : Nat) : ByteArray := ⟨((109 : UInt8) :: digs k []).toArray⟩
theorem markText_any (k : Nat) (w : World) (h0 : 0 < k) (h1 : k ≤ 4194304) :
    Calls Tryz.prog 42 #[.int .i64 (k : Int)] w fun e w' => e = .returned (.string (mk k)) ∧ Below w.heap.size w w' := by
  go_enter Tryz.func42, Tryz.ntmps42
  go_wp2
  go_loopw [0, 3] (fun n v wr => ∃ (m : Nat) (ys : List UInt8), n = .int .i64 m ∧ m ≤ 4194304 ∧ v = .string ⟨ys.toArray⟩ ∧ ys.length + m ≤ 4194304 ∧ Hid (digs m ys = digs k []) ∧ Below w.heap.size w wr) (fun n _ _ => (intOf n).toNat)
  case atStart => exact ⟨k, [], rfl, h1, rfl, by simp; omega, rfl, Below.refl _ _⟩
  case round =>
    obtain ⟨m, ys, rfl, hm, rfl, hy, he, hb⟩ := hrel
    have hs := hb.size
    by_cases hlt : 0 < m
    · have hcv := conv_one wr (UInt8.ofNat (48 + m % 10)) (48 + (m : Int) % 10) (dig_toNat m)
      generalize hd : UInt8.ofNat (48 + m % 10) = d at hcv
      have hadd : ∀ w', (Op.stringOp .add ⟨#[d]⟩ ⟨ys.toArray⟩).run Tryz.prog w' = .ok (.string ⟨(d :: ys).toArray⟩) w' := fun w' => run_string_add_lists w' [d] ys (by simp) (by omega)
      have HE : Hid (digs (m / 10) (d :: ys) = digs k []) := by show _ = _; rw [← hd, ← digs_step m hlt]; exact he.out
      have R2 : Below w.heap.size w (wr.alloc (.cells #[.int .u8 (48 + (m : Int) % 10)] 5)) := hb.alloc hs _
      clear hd he hb
      go_wp2
      go_roundw
      case rel => exact ⟨m / 10, d :: ys, by go_num, by omega, by simp, by simp only [List.length_cons]; omega, HE, R2⟩
      case measure => simp [intOf]; omega
    · have hm0 : m = 0 := by omega
      subst hm0
      have HE : Hid (ys = digs k []) := by show _ = _; rw [← he.out, digs_zero]
      have hadd : ∀ w', (Op.stringOp .add ⟨#[109]⟩ ⟨ys.toArray⟩).run Tryz.prog w' = .ok (.string ⟨((109 : UInt8) :: ys).toArray⟩) w' := fun w' => run_string_add_lists w' [109] ys (by simp) (by omega)
      clear he
      go_wp2
      go_ret
      refine ⟨?_, hb⟩
      unfold mk
      rw [← HE.out]
      simp
theorem markText_at (x : Int) (k : Nat) (w : World) (hx : x = (k : Int)) (h0 : 0 < k) (h1 : k ≤ 4194304) :
    Calls Tryz.prog 42 #[.int .i64 x] w fun e w' => e = .returned (.string (mk k)) ∧ Below w.heap.size w w' := by
  subst hx; exact markText_any k w h0 h1

open Go.RowKit
theorem ret_i64 {a b : Int} (h : a = b) : Ending.returned (.int .i64 a) = .returned (.int .i64 b) := by rw [h]
theorem made_IV (n : Nat) : (madeCells #[Value.int .i64 0] n).toList = IV (List.replicate n 0) := by
  rw [toList_madeCells_one]
  simp [IV]
theorem cpI_step (bs : List Int) (k : Nat) (h : k < bs.length) : (bs.take k ++ List.replicate (bs.length - k) 0).set k bs[k] = bs.take (k + 1) ++ List.replicate (bs.length - (k + 1)) 0 := by
  have hl : (bs.take k).length = k := by rw [List.length_take]; omega
  rw [List.set_append_right _ _ (by omega), hl, Nat.sub_self]
  obtain ⟨m, hm⟩ : ∃ m, bs.length - k = m + 1 := ⟨bs.length - k - 1, by omega⟩
  have hm2 : bs.length - (k + 1) = m := by omega
  rw [hm, hm2, List.replicate_succ, List.set_cons_zero, List.take_succ_eq_append_getElem h, List.append_assoc, List.singleton_append]
theorem cpI_len (bs : List Int) (k : Nat) (h : k ≤ bs.length) : (bs.take k ++ List.replicate (bs.length - k) 0).length = bs.length := by
  rw [List.length_append, List.length_take, List.length_replicate]; omega
theorem toInts_any (v : Value) (bs : List Int) (w : World) (hr : RdI w v bs) (hs : bs.length ≤ 1073741824) :
    Calls Tryz.prog 30 #[v] w fun e w' => ∃ u, e = .returned u ∧ OwnI w' w.heap.size u bs ∧ Below w.heap.size w w' := by
  obtain ⟨i0, hi, hz0, hz1, hz2⟩ := info_parts Tryz.info2
  obtain ⟨a, cap, hv, hl, hm, _, hA⟩ := hr
  subst hv
  go_enter Tryz.func30, Tryz.ntmps30
  go_wp2_with (at_make; (refine wpList_make_full _ rfl _ _ 24 rfl w.heap.size 2 i0 (.int .i64 0) 1 Tryz.underlying24 hi hz0 hz1 .i64 .i64 (bs.length : Int) (bs.length : Int) bs.length rfl rfl rfl rfl ?c1 ?c2 ?c3 ?_))
  case c1 => rw [hz2]; omega
  case c2 => unfold maxLen; omega
  case c3 => omega
  intro w1 ho1 hg1
  rw [made_IV] at ho1
  have hb1 : Below w.heap.size w w1 := (Below.refl _ _).grown hg1 (Nat.le_refl _) (fun k hk => by cases hk)
  clear hg1
  go_wp2
  go_loopw [4] (fun i wr => ∃ k : Nat, k ≤ bs.length ∧ i = .int .i64 k ∧ wr.ownsRow w.heap.size 2 1 (.slice (some ⟨w.heap.size, 0, none⟩) bs.length bs.length) bs.length (IV (bs.take k ++ List.replicate (bs.length - k) 0)) ∧ Below w.heap.size w wr) (fun i _ => bs.length - (intOf i).toNat)
  case atStart => exact ⟨0, Nat.zero_le _, rfl, by simpa using ho1, hb1⟩
  case round =>
    obtain ⟨k, hk, rfl, ho, hb⟩ := hrel
    clear ho1 hb1
    by_cases hlt : k < bs.length
    · obtain ⟨b, off, ha, hc⟩ : ∃ b off, a = some ⟨b, off, none⟩ ∧ wr.cell? ⟨b, off + k, none⟩ = some (.int .i64 bs[k]) := by
        rcases hA with h | ⟨b, off, ha, hc⟩
        · subst h; simp at hlt
        · exact ⟨b, off, ha, by rw [hb.cell (World.block_lt_of_cell? w _ (hc k hlt))]; exact hc k hlt⟩
      rw [ha]
      have hc2 := (ho.cellAt k (by omega)).trans (IV_get _ k (by rw [cpI_len bs k hk]; exact hlt))
      have hf := ho.frozenAt k
      have R1 := (ho.stored k (.int .i64 bs[k])).1
      rw [← IV_set, cpI_step bs k hlt] at R1
      have R2 : Below w.heap.size w (wr.setCell ⟨w.heap.size, k, none⟩ (.int .i64 bs[k])) := hb.setCell (Nat.le_refl _) _
      have H1 : Hid (World.ownsRow _ _ _ _ _ _ _) := R1
      clear ho hA hb R1
      go_wp2
      go_roundw
      case rel => exact ⟨k + 1, by omega, by go_num, H1.out, R2⟩
      case measure => simp [intOf]; omega
    · have hke : k = bs.length := by omega
      subst hke
      have H1 : OwnI wr w.heap.size (.slice (some ⟨w.heap.size, 0, none⟩) bs.length bs.length) bs := by unfold OwnI; simpa using ho
      clear ho
      go_wp2
      go_ret
      exact ⟨_, rfl, H1, hb⟩
theorem eqInts_same (va vb : Value) (xs : List Int) (w : World) (ha : RdI w va xs) (hb : RdI w vb xs) :
    Calls Tryz.prog 37 #[va, vb] w fun e w' => e = .returned (.bool true) ∧ ∃ n, w' = w.drewN n := by
  obtain ⟨aa, ca, hva, hla, hma, _⟩ := id ha
  obtain ⟨ab, cb, hvb, hlb, hmb, _⟩ := id hb
  subst hva
  subst hvb
  unfold maxLen at hma hmb
  have hne : ((xs.length : Int) != (xs.length : Int)) = false := by simp
  go_enter Tryz.func37, Tryz.ntmps37
  go_wp2
  go_loopw [5] (fun i wr => ∃ k : Nat, k ≤ xs.length ∧ i = .int .i64 k ∧ ∃ n, wr = w.drewN n) (fun i _ => xs.length - (intOf i).toNat)
  case atStart => exact ⟨0, Nat.zero_le _, rfl, 0, rfl⟩
  case round =>
    obtain ⟨k, hk, rfl, n, rfl⟩ := hrel
    by_cases hlt : k < xs.length
    · obtain ⟨b1, o1, rfl, c1⟩ := (ha.drewN n).at k hlt
      obtain ⟨b2, o2, rfl, c2⟩ := (hb.drewN n).at k hlt
      generalize xs[k] = x at c1 c2
      have hd : (x != x) = false := by simp
      go_wp2_with fail
      refine wp_region_noPanic ?_
      refine wp_region_held_drew (S := fun w' => w'.cell? ⟨b1, o1 + k, none⟩ = some (.int .i64 x) ∧ w'.cell? ⟨b2, o2 + k, none⟩ = some (.int .i64 x)) (by kernel_rfl) ⟨c1, c2⟩ (fun hH => ?_)
      refine tkA 0 17 hH ?_; try simp only [Act.put, sA, sZ, sS]
      refine tkA 1 18 hH ?_; try simp only [Act.put, sA, sZ, sS]
      refine tkA 2 19 hH ?_; try simp only [Act.put, sA, sZ, sS]
      refine tkA 3 20 hH ?_; try simp only [Act.put, sA, sZ, sS]
      refine tkA 4 21 hH ?_; try simp only [Act.put, sA, sZ, sS]
      refine tkA 5 22 hH ?_; try simp only [Act.put, sA, sZ, sS]
      refine tkA 6 23 hH ?_; try simp only [Act.put, sA, sZ, sS]
      refine tkA 7 24 hH ?_; try simp only [Act.put, sA, sZ, sS]
      refine tkA 8 25 hH ?_; try simp only [Act.put, sA, sZ, sS]
      refine wpAnyH_done (by kernel_rfl) ?_ _
      refine NoPanic.normal ?_
      go_wp2
      go_roundw
      case rel => exact ⟨k + 1, by omega, by go_num, n + 1, rfl⟩
      case measure => simp [intOf]; omega
    · have hlt2 : ¬ (k : Int) < (xs.length : Int) := by omega
      go_wp2
      go_ret
      exact ⟨rfl, n, rfl⟩
def imarks (k n : Nat) : List Int := (List.range n).map fun i => ((k + i : Nat) : Int)
theorem imarks_length (k n : Nat) : (imarks k n).length = n := by simp [imarks]
theorem imarks_succ (k n : Nat) : imarks k (n + 1) = imarks k n ++ [((k + n : Nat) : Int)] := by simp [imarks, List.range_succ]
theorem imarks_get (k n i : Nat) (h : i < (imarks k n).length) : (imarks k n)[i] = ((k + i : Nat) : Int) := by simp [imarks]
theorem imark_step (k i : Nat) (bs : List Int) (h : i < bs.length) : (imarks k i ++ bs.drop i).set i ((k + i : Nat) : Int) = imarks k (i + 1) ++ bs.drop (i + 1) := by
  have hl := imarks_length k i
  rw [List.set_append_right _ _ (by omega), hl, Nat.sub_self, List.drop_eq_getElem_cons h, List.set_cons_zero, imarks_succ, List.append_assoc, List.singleton_append]
theorem imark_any (v : Value) (bs : List Int) (base k : Nat) (w : World) (hk : k + bs.length ≤ 1073741824) (hown : OwnI w base v bs) :
    Calls Tryz.prog 41 #[v, .int .i64 (k : Int)] w fun e w' => e = .returned (.int .i64 ((k + bs.length : Nat) : Int)) ∧ OwnI w' base v (imarks k bs.length) ∧ w.grownBy w' v.ownBlock := by
  rcases hown.2 with ⟨rfl, h0⟩ | ⟨g, cap, cur, hv, hb, hg, hn, hc, _⟩
  · have : bs = [] := List.length_eq_zero_iff.1 h0
    subst this
    go_enter Tryz.func41, Tryz.ntmps41
    go_wp2
    refine wp_loop_rounds 1 ?_
    rw [rounds_succ]
    go_wp2
    go_ret
    exact ⟨by simp, hown, ⟨rfl, rfl, rfl, Nat.le_refl _, fun _ _ _ => rfl⟩⟩
  · subst hv
    unfold maxLen at hc
    have hgr : w.grownBy w (some g) := ⟨rfl, rfl, rfl, Nat.le_refl _, fun _ _ _ => rfl⟩
    have ho0 : w.ownsRow base 2 1 (.slice (some ⟨g, 0, none⟩) bs.length cap) bs.length (IV (imarks k 0 ++ bs.drop 0)) := by have h := hown; unfold OwnI at h; simpa [imarks] using h
    clear hg
    go_enter Tryz.func41, Tryz.ntmps41
    go_wp2
    go_loopw [1, 5] (fun kk i wr => ∃ j : Nat, j ≤ bs.length ∧ i = .int .i64 j ∧ kk = .int .i64 ((k + j : Nat) : Int) ∧ wr.ownsRow base 2 1 (.slice (some ⟨g, 0, none⟩) bs.length cap) bs.length (IV (imarks k j ++ bs.drop j)) ∧ w.grownBy wr (some g)) (fun _ i _ => bs.length - (intOf i).toNat)
    case atStart => exact ⟨0, Nat.zero_le _, rfl, rfl, ho0, hgr⟩
    case round =>
      obtain ⟨j, hj, rfl, rfl, ho, hgw⟩ := hrel
      clear ho0 hgr
      have hll : (imarks k j ++ bs.drop j).length = bs.length := by rw [List.length_append, imarks_length, List.length_drop]; omega
      by_cases hlt : j < bs.length
      · have hc2 := (ho.cellAt j (by omega)).trans (IV_get _ j (by omega))
        have hf := ho.frozenAt j
        have R1 := (ho.stored j (.int .i64 ((k + j : Nat) : Int))).1
        rw [← IV_set, imark_step k j bs hlt] at R1
        have R2 : w.grownBy (wr.setCell ⟨g, j, none⟩ (.int .i64 ((k + j : Nat) : Int))) (some g) := ⟨hgw.os, hgw.tape, hgw.output, by simpa using hgw.size, fun i hi hr => by rw [heap_setCell_other wr ⟨g, j, none⟩ i _ (fun e => hr (by simp [e]))]; exact hgw.block i hi hr⟩
        generalize (imarks k j ++ bs.drop j)[j] = old at hc2
        have H1 : Hid (World.ownsRow _ _ _ _ _ _ _) := R1
        obtain ⟨kj, hkj⟩ : ∃ kj : Nat, kj = k + j := ⟨_, rfl⟩
        rw [← hkj] at H1 R2 ⊢
        have hkj2 : kj ≤ 1073741824 := by omega
        have HKJ : Hid (kj = k + j) := hkj
        clear ho R1 hgw hll hkj
        go_wp2
        go_roundw
        case rel => exact ⟨j + 1, by omega, by go_num, by have := HKJ.out; simp; omega, H1.out, R2⟩
        case measure => simp [intOf]; omega
      · have hje : j = bs.length := by omega
        have hlt2 : ¬ (j : Int) < (bs.length : Int) := by omega
        have H1 : Hid (OwnI wr base (.slice (some ⟨g, 0, none⟩) bs.length cap) (imarks k bs.length)) := by
          rw [hje, List.drop_eq_nil_of_le (Nat.le_refl _), List.append_nil] at ho
          unfold Hid OwnI
          rw [imarks_length]
          exact ho
        have HE : Hid (k + j = k + bs.length) := by rw [hje]; rfl
        clear ho hll hje
        go_wp2
        go_ret
        exact ⟨ret_i64 (by have := HE.out; omega), H1.out, hgw⟩
theorem iheld_any (v : Value) (n k : Nat) (w : World) (hk : k + n ≤ 1073741824) (hr : RdI w v (imarks k n)) :
    Calls Tryz.prog 45 #[v, .int .i64 (k : Int)] w fun e w' => e = .returned (.int .i64 ((k + n : Nat) : Int)) ∧ w' = w := by
  obtain ⟨a, cap, hv, hl, hm, _⟩ := id hr
  rw [imarks_length] at hv hl
  subst hv
  unfold maxLen at hm
  go_enter Tryz.func45, Tryz.ntmps45
  go_wp2
  go_loopw [1, 5] (fun kk i wr => ∃ j : Nat, j ≤ n ∧ i = .int .i64 j ∧ kk = .int .i64 ((k + j : Nat) : Int) ∧ wr = w) (fun _ i _ => n - (intOf i).toNat)
  case atStart => exact ⟨0, Nat.zero_le _, rfl, rfl, rfl⟩
  case round =>
    obtain ⟨j, hj, rfl, rfl, hwr⟩ := hrel
    obtain rfl := hwr.symm
    by_cases hlt : j < n
    · obtain ⟨b, off, rfl, hc⟩ := hr.at j (by rw [imarks_length]; exact hlt)
      rw [imarks_get] at hc
      obtain ⟨kj, hkj⟩ : ∃ kj : Nat, kj = k + j := ⟨_, rfl⟩
      rw [← hkj] at hc ⊢
      have hkj2 : kj ≤ 1073741824 := by omega
      have hd : ((kj : Int) != (kj : Int)) = false := by simp
      have HKJ : Hid (kj = k + j) := hkj
      clear hkj
      go_wp2
      go_roundw
      case rel => exact ⟨j + 1, by omega, by go_num, by have := HKJ.out; simp; omega, trivial⟩
      case measure => simp [intOf]; omega
    · have hje : j = n := by omega
      have hlt2 : ¬ (j : Int) < (n : Int) := by omega
      have HE : Hid (k + j = k + n) := by rw [hje]; rfl
      clear hje
      go_wp2
      go_ret
      exact ⟨ret_i64 (by have := HE.out; omega), rfl⟩
open Go.RowKit
theorem eqTexts_same (va vb : Value) (bs : List ByteArray) (w : World) (ha : RdS w va bs) (hb : RdS w vb bs) :
    Calls Tryz.prog 104 #[va, vb] w fun e w' => e = .returned (.bool true) ∧ ∃ q, w' = w.drewN q := by
  obtain ⟨aa, ca, rfl, hla, hma, hA⟩ := ha
  obtain ⟨ab, cb, rfl, hlb, hmb, hB⟩ := hb
  unfold maxLen at hma hmb
  have hne : ((bs.length : Int) != (bs.length : Int)) = false := by simp
  rcases hA with rfl | ⟨ba, offa, rfl, hA⟩
  · go_enter Tryz.func104, Tryz.ntmps104
    go_wp2
    refine wp_loop_rounds 1 ?_
    rw [rounds_succ]
    go_wp2
    go_ret
    exact ⟨rfl, 0, rfl⟩
  · rcases hB with rfl | ⟨bb, offb, rfl, hB⟩
    · go_enter Tryz.func104, Tryz.ntmps104
      go_wp2
      refine wp_loop_rounds 1 ?_
      rw [rounds_succ]
      go_wp2
      go_ret
      exact ⟨rfl, 0, rfl⟩
    · go_enter Tryz.func104, Tryz.ntmps104
      go_wp2
      go_loopw [5] (fun i wr => ∃ k : Nat, k ≤ bs.length ∧ i = .int .i64 k ∧ ∃ q, wr = w.drewN q) (fun i _ => bs.length - (intOf i).toNat)
      case atStart => exact ⟨0, Nat.zero_le _, rfl, 0, rfl⟩
      case round =>
        obtain ⟨k, hk, rfl, q, rfl⟩ := hrel
        by_cases hlt : k < bs.length
        · have h1 := hA k hlt
          have h2 := hB k hlt
          clear hA hB
          go_wp2
          go_quiet (fail)
          go_wp2
          go_roundw
          case rel => exact ⟨k + 1, by omega, by go_num, _, rfl⟩
          case measure => simp [intOf]; omega
        · go_wp2
          go_ret
          exact ⟨rfl, q, rfl⟩

def smarks (k n : Nat) : List ByteArray := (List.range n).map fun i => mk (k + i)
theorem smarks_length (k n : Nat) : (smarks k n).length = n := by simp [smarks]
theorem smarks_succ (k n : Nat) : smarks k (n + 1) = smarks k n ++ [mk (k + n)] := by simp [smarks, List.range_succ]
theorem smarks_get (k n i : Nat) (h : i < (smarks k n).length) : (smarks k n)[i] = mk (k + i) := by simp [smarks]
theorem smark_step (k i : Nat) (bs : List ByteArray) (h : i < bs.length) : (smarks k i ++ bs.drop i).set i (mk (k + i)) = smarks k (i + 1) ++ bs.drop (i + 1) := by
  rw [smarks_succ, List.set_append_right _ _ (by rw [smarks_length]; omega), smarks_length, Nat.sub_self, List.drop_eq_getElem_cons h, List.set_cons_zero]
  simp
theorem smark_frame {w wr w1 : World} {g : Nat} {u : Value} {j : Nat} (hg : w.grownBy wr (some g)) (hb : Below wr.heap.size wr w1) : w.grownBy (w1.setCell ⟨g, j, none⟩ u) (some g) :=
  ⟨hb.os.trans hg.os, hb.tape.trans hg.tape, hb.output.trans hg.output, by have := hg.size; have := hb.size; simp; omega, fun k hk hr => by
    rw [heap_setCell_other w1 ⟨g, j, none⟩ k u (fun e => hr (by simp [e])), hb.block k (by have := hg.size; omega)]
    exact hg.block k hk hr⟩
theorem grownBy_one (a : World) (row : Option Nat) : a.grownBy a row := ⟨rfl, rfl, rfl, Nat.le_refl _, fun _ _ _ => rfl⟩

theorem smark_any (v : Value) (bs : List ByteArray) (base k : Nat) (w : World) (hk0 : 0 < k) (hk : k + bs.length ≤ 4194304) (hown : OwnS w base v bs) :
    Calls Tryz.prog 70 #[v, .int .i64 k] w fun e w' => e = .returned (.int .i64 ((k + bs.length : Nat) : Int)) ∧ OwnS w' base v (smarks k bs.length) ∧ w.grownBy w' v.ownBlock := by
  obtain ⟨g, cap, hv⟩ | ⟨hv, h0⟩ : (∃ g cap, v = .slice (some ⟨g, 0, none⟩) bs.length cap) ∨ (v = .slice none 0 0 ∧ bs = []) := by
    rcases hown.2 with ⟨rfl, h0⟩ | ⟨g, cap, cur, rfl, _⟩
    · exact .inr ⟨rfl, List.length_eq_zero_iff.1 h0⟩
    · exact .inl ⟨g, cap, rfl⟩
  · subst hv
    go_enter Tryz.func70, Tryz.ntmps70
    go_wp2
    go_loopw [1, 5] (fun kk i wr => ∃ j : Nat, j ≤ bs.length ∧ i = .int .i64 j ∧ kk = .int .i64 ((k : Int) + (j : Int)) ∧ OwnS wr base (.slice (some ⟨g, 0, none⟩) bs.length cap) (smarks k j ++ bs.drop j) ∧ w.grownBy wr (some g)) (fun _ i _ => bs.length - (intOf i).toNat)
    case atStart => exact ⟨0, Nat.zero_le _, rfl, by simp, by simpa [smarks] using hown, grownBy_one _ _⟩
    case round =>
      obtain ⟨j, hj, rfl, rfl, ho, hg⟩ := hrel
      have hlen : (smarks k j ++ bs.drop j).length = bs.length := by simp [smarks_length]; omega
      by_cases hlt : j < bs.length
      · go_wp2_with fail
        refine (markText_at _ (k + j) _ (by omega) (by omega) (by omega)).mono ?_
        rintro e1 w1 ⟨rfl, hb1⟩
        have ho1 := ho.below hb1
        have ho' : w1.ownsRow base 9 1 (.slice (some ⟨g, 0, none⟩) bs.length cap) bs.length (SV (smarks k j ++ bs.drop j)) := by have h := ho1; unfold OwnS at h; rwa [hlen] at h
        have hc := (ho'.cellAt j (by omega)).trans (SV_get _ j (by omega))
        have hf := ho'.frozenAt j
        have R1 : OwnS (w1.setCell ⟨g, j, none⟩ (.string (mk (k + j)))) base (.slice (some ⟨g, 0, none⟩) bs.length cap) (smarks k (j + 1) ++ bs.drop (j + 1)) := by
          have h := (ho'.stored j (.string (mk (k + j)))).1
          rw [← SV_set, smark_step k j bs hlt] at h
          have hl : (smarks k (j + 1) ++ bs.drop (j + 1)).length = bs.length := by simp [smarks_length]; omega
          unfold OwnS
          rw [hl]
          exact h
        have R2 : w.grownBy (w1.setCell ⟨g, j, none⟩ (.string (mk (k + j)))) (some g) := smark_frame hg hb1
        clear ho ho' ho1 hg hb1
        go_wp2
        go_roundw
        case rel => exact ⟨j + 1, by omega, by go_num, by go_num, R1, R2⟩
        case measure => simp [intOf]; omega
      · have hje : j = bs.length := by omega
        subst hje
        go_wp2
        go_ret
        exact ⟨by simp, by simpa using ho, hg⟩
  · subst hv
    subst h0
    go_enter Tryz.func70, Tryz.ntmps70
    go_wp2
    refine wp_loop_rounds 1 ?_
    rw [rounds_succ]
    go_wp2
    go_ret
    exact ⟨rfl, hown, grownBy_one _ _⟩

theorem sheld_any (v : Value) (n k : Nat) (w : World) (hk0 : 0 < k) (hk : k + n ≤ 4194304) (hr : RdS w v (smarks k n)) :
    Calls Tryz.prog 71 #[v, .int .i64 k] w fun e w' => e = .returned (.int .i64 ((k + n : Nat) : Int)) ∧ Below w.heap.size w w' := by
  obtain ⟨a, cap, hv, hl, hm, hA⟩ := hr
  rw [smarks_length] at hv hl
  subst hv
  by_cases h0 : n = 0
  · subst h0
    go_enter Tryz.func71, Tryz.ntmps71
    go_wp2
    refine wp_loop_rounds 1 ?_
    rw [rounds_succ]
    go_wp2
    go_ret
    exact ⟨rfl, Below.refl _ _⟩
  · obtain ⟨b, off, rfl, hc⟩ : ∃ b off, a = some ⟨b, off, none⟩ ∧ ∀ i, i < n → w.cell? ⟨b, off + i, none⟩ = some (.string (mk (k + i))) := by
      rcases hA with h | ⟨b, off, ha, hc⟩
      · have := congrArg List.length h; rw [smarks_length] at this; exact absurd this h0
      · refine ⟨b, off, ha, fun i hi => ?_⟩
        have h := hc i (by rw [smarks_length]; exact hi)
        rw [smarks_get] at h
        exact h
    clear hA
    go_enter Tryz.func71, Tryz.ntmps71
    go_wp2
    go_loopw [1, 5] (fun kk i wr => ∃ j : Nat, j ≤ n ∧ i = .int .i64 j ∧ kk = .int .i64 ((k : Int) + (j : Int)) ∧ Below w.heap.size w wr) (fun _ i _ => n - (intOf i).toNat)
    case atStart => exact ⟨0, Nat.zero_le _, rfl, by simp, Below.refl _ _⟩
    case round =>
      obtain ⟨j, hj, rfl, rfl, hb⟩ := hrel
      by_cases hlt : j < n
      · have h1 : wr.cell? ⟨b, off + j, none⟩ = some (.string (mk (k + j))) := by rw [hb.cell (World.block_lt_of_cell? w _ (hc j hlt))]; exact hc j hlt
        have hlt2 := World.block_lt_of_cell? wr _ h1
        clear hc
        go_wp2
        go_region_with (go_at_call 42; refine (markText_at _ (k + j) _ (by omega) (by omega) (by omega)).mono ?_; rintro e w' ⟨rfl, hb'⟩; have h2 : w'.cell? ⟨b, off + j, none⟩ = some (.string (mk (k + j))) := (hb'.cell (by simpa using hlt2)).trans (by simpa using h1); have hbw : Below w.heap.size w w' := (Below.drew hb).trans (hb'.mono (by simpa using hb.size)))
        all_goals
          clear hb h1
          go_wp2
          go_roundw
          case rel => exact ⟨j + 1, by omega, by go_num, by go_num, by assumption⟩
          case measure => simp [intOf]; omega
      · have hje : j = n := by omega
        subst hje
        go_wp2
        go_ret
        exact ⟨by simp, hb⟩
open Go.RowKit
theorem made_SV (n : Nat) : (madeCells #[Value.string ⟨#[]⟩] n).toList = SV (List.replicate n ⟨#[]⟩) := by
  rw [toList_madeCells_one]
  simp [SV]
theorem cpS_step (bs : List ByteArray) (z : ByteArray) (k : Nat) (h : k < bs.length) : (bs.take k ++ List.replicate (bs.length - k) z).set k bs[k] = bs.take (k + 1) ++ List.replicate (bs.length - (k + 1)) z := by
  have hl : (bs.take k).length = k := by rw [List.length_take]; omega
  rw [List.set_append_right _ _ (by omega), hl, Nat.sub_self]
  obtain ⟨m, hm⟩ : ∃ m, bs.length - k = m + 1 := ⟨bs.length - k - 1, by omega⟩
  have hm2 : bs.length - (k + 1) = m := by omega
  rw [hm, hm2, List.replicate_succ, List.set_cons_zero, List.take_succ_eq_append_getElem h, List.append_assoc, List.singleton_append]
theorem cpS_len (bs : List ByteArray) (z : ByteArray) (k : Nat) (h : k ≤ bs.length) : (bs.take k ++ List.replicate (bs.length - k) z).length = bs.length := by
  rw [List.length_append, List.length_take, List.length_replicate]; omega

theorem toTexts_any (v : Value) (bs : List ByteArray) (w : World) (hr : RdS w v bs) (hs : bs.length ≤ 1073741824) :
    Calls Tryz.prog 99 #[v] w fun e w' => ∃ u, e = .returned u ∧ OwnS w' w.heap.size u bs ∧ Below w.heap.size w w' := by
  obtain ⟨i0, hi, hz0, hz1, hz2⟩ := info_parts Tryz.info9
  obtain ⟨a, cap, rfl, hl, hm, hA⟩ := hr
  go_enter Tryz.func99, Tryz.ntmps99
  go_wp2_with (at_make; (refine wpList_make_full _ rfl _ _ 70 rfl w.heap.size 9 i0 (.string ⟨#[]⟩) 1 Tryz.underlying70 hi hz0 hz1 .i64 .i64 (bs.length : Int) (bs.length : Int) bs.length rfl rfl rfl rfl ?c1 ?c2 ?c3 ?_))
  case c1 => rw [hz2]; omega
  case c2 => unfold maxLen; omega
  case c3 => omega
  intro w1 ho1 hg1
  rw [made_SV] at ho1
  have hb1 : Below w.heap.size w w1 := (Below.refl _ _).grown hg1 (Nat.le_refl _) (fun k hk => by cases hk)
  clear hg1
  go_wp2
  go_loopw [4] (fun i wr => ∃ k : Nat, k ≤ bs.length ∧ i = .int .i64 k ∧ wr.ownsRow w.heap.size 9 1 (.slice (some ⟨w.heap.size, 0, none⟩) bs.length bs.length) bs.length (SV (bs.take k ++ List.replicate (bs.length - k) ⟨#[]⟩)) ∧ Below w.heap.size w wr) (fun i _ => bs.length - (intOf i).toNat)
  case atStart => exact ⟨0, Nat.zero_le _, rfl, by simpa using ho1, hb1⟩
  case round =>
    obtain ⟨k, hk, rfl, ho, hb⟩ := hrel
    clear ho1 hb1
    by_cases hlt : k < bs.length
    · obtain ⟨b, off, ha, hc⟩ : ∃ b off, a = some ⟨b, off, none⟩ ∧ wr.cell? ⟨b, off + k, none⟩ = some (.string bs[k]) := by
        rcases hA with h | ⟨b, off, ha, hc⟩
        · subst h; simp at hlt
        · exact ⟨b, off, ha, by rw [hb.cell (World.block_lt_of_cell? w _ (hc k hlt))]; exact hc k hlt⟩
      rw [ha]
      have hc2 := (ho.cellAt k (by omega)).trans (SV_get _ k (by rw [cpS_len bs _ k hk]; exact hlt))
      have hf := ho.frozenAt k
      have R1 := (ho.stored k (.string bs[k])).1
      rw [← SV_set, cpS_step bs _ k hlt] at R1
      have R2 : Below w.heap.size w (wr.setCell ⟨w.heap.size, k, none⟩ (.string bs[k])) := hb.setCell (Nat.le_refl _) _
      have H1 : Hid (World.ownsRow _ _ _ _ _ _ _) := R1
      clear ho hA hb R1
      go_wp2
      go_roundw
      case rel => exact ⟨k + 1, by omega, by go_num, H1.out, R2⟩
      case measure => simp [intOf]; omega
    · have hke : k = bs.length := by omega
      subst hke
      have H1 : OwnS wr w.heap.size (.slice (some ⟨w.heap.size, 0, none⟩) bs.length bs.length) bs := by unfold OwnS; simpa using ho
      clear ho
      go_wp2
      go_ret
      exact ⟨_, rfl, H1, hb⟩

theorem szTexts_at (v : Value) (ss : List ByteArray) (lf : Int) (w : World) (hr : RdS w v ss) (hsz : ∀ s ∈ ss, s.size ≤ maxLen) (hlf0 : 0 ≤ lf) (hlf1 : lf ≤ 1048576) :
    Calls Tryz.prog 94 #[v, .int .i64 lf] w fun e w' => w' = w ∧ ∃ x : Int, e = .returned (.int .i64 x) ∧ (x = -1 ∨ 0 ≤ x ∧ x + ss.length ≤ lf ∧ ∀ s ∈ ss, s.size ≤ 1048576) := by
  obtain ⟨a, cap, rfl, hl, hm, hA⟩ := hr
  unfold maxLen at hm
  have HSZ : Hid (∀ s ∈ ss, s.size ≤ maxLen) := hsz
  clear hsz
  by_cases hbig : lf < (ss.length : Int)
  · clear hA
    have hbn : lf - (ss.length : Int) < 0 := by omega
    go_enter Tryz.func94, Tryz.ntmps94
    go_wp2
    go_ret
    exact ⟨rfl, -1, rfl, .inl rfl⟩
  · have hbn : ¬ lf - (ss.length : Int) < 0 := by omega
    go_enter Tryz.func94, Tryz.ntmps94
    go_wp2
    go_loop [1, 5] (fun l i => ∃ (k : Nat) (x : Int), k ≤ ss.length ∧ i = .int .i64 k ∧ l = .int .i64 x ∧ 0 ≤ x ∧ x ≤ lf - (ss.length : Int) ∧ Hid (∀ j (h : j < ss.length), j < k → ss[j].size ≤ 1048576)) (fun _ i => ss.length - (intOf i).toNat)
    case atStart => exact ⟨0, _, Nat.zero_le _, rfl, rfl, by omega, by omega, fun j h h' => by omega⟩
    case round =>
      obtain ⟨k, x, hk, rfl, rfl, hx0, hx1, HJ⟩ := hrel
      by_cases hlt : k < ss.length
      · obtain ⟨b, off, ha, hc⟩ : ∃ b off, a = some ⟨b, off, none⟩ ∧ w.cell? ⟨b, off + k, none⟩ = some (.string ss[k]) := by
          rcases hA with h | ⟨b, off, ha, hc⟩
          · subst h; simp at hlt
          · exact ⟨b, off, ha, hc k hlt⟩
        rw [ha]
        have hsk := HSZ.out _ (List.getElem_mem hlt)
        unfold maxLen at hsk
        obtain ⟨s, hs⟩ : ∃ s, s = ss[k] := ⟨_, rfl⟩
        rw [← hs] at hc hsk
        have Hs : Hid (s = ss[k]) := hs
        clear hs hA
        by_cases hneg : x - (s.size : Int) < 0
        · go_wp2
          go_ret
          exact ⟨rfl, -1, rfl, .inl rfl⟩
        · go_wp2
          go_round
          case rel =>
            refine ⟨k + 1, _, by omega, by go_num, rfl, by omega, by omega, fun j h h' => ?_⟩
            by_cases hjk : j = k
            · subst hjk; rw [← Hs.out]; omega
            · exact HJ.out j h (by omega)
          case measure => simp [intOf]; omega
      · have hke : k = ss.length := by omega
        subst hke
        go_wp2
        go_ret
        refine ⟨rfl, x, rfl, .inr ⟨hx0, by omega, fun s hs => ?_⟩⟩
        obtain ⟨j, hj, rfl⟩ := List.getElem_of_mem hs
        exact HJ.out j hj hj
end Go.Proofs.YtbefmbjlogkmbaaGreat
