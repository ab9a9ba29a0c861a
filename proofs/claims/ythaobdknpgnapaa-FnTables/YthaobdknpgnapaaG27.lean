/- The contract of the model's Built. The contract of the law's own mark of a number, as a text. The contracts of the laws' own helpers over slices of numbers: copied, alike, marked, held. The contracts of the laws' own helpers over slices of texts, over MarkText: alike, marked, held. -/
import Derived.Test.YthaobdknpgnapaaTabSpec5
import Derived.Test.YthaobdknpgnapaaG05
import Derived.Test.YthaobdknpgnapaaG00
import Derived.Deep.RegionHeld3
import Derived.Test.YthaobdknpgnapaaG04
import Derived.Test.YthaobdknpgnapaaEntSpecOk
import Derived.BigQuiet
import Derived.Deep.RegionWith
namespace Go.Proofs.Ythaobdknpgnapaa
open Go.RowKit
/-- What Built leaves. -/
def BuiltPost (w : World) (T : Tbl) (ok : Bool) (e : Ending) (w' : World) : Prop :=
  ∃ vb vk, e = .returned (.tuple #[.agg #[.string T.first, .string T.last, vb, vk], .bool ok]) ∧ OwnI w' w.heap.size vb T.bits ∧ OwnS w' w.heap.size vk T.blocks ∧ Below w.heap.size w w'
theorem ownI_zero (w : World) (B : Nat) : OwnI w B (.slice none 0 0) [] := ⟨rfl, .inl ⟨rfl, rfl⟩⟩
theorem ownS_zero (w : World) (B : Nat) : OwnS w B (.slice none 0 0) [] := ⟨rfl, .inl ⟨rfl, rfl⟩⟩
theorem builtPost_no {w W : World} {es : List Ent} (h : builtOk es = false) (hb : Below w.heap.size w W) : BuiltPost w (builtL es) (builtOk es) (.returned (.tuple #[.agg #[.string ⟨#[]⟩, .string ⟨#[]⟩, .slice none 0 0, .slice none 0 0], .bool false])) W := by
  unfold builtL
  rw [h, if_neg (by simp)]
  exact ⟨_, _, rfl, ownI_zero _ _, ownS_zero _ _, hb⟩
theorem builtPost_yes {w W : World} {es : List Ent} {vb vk : Value} (h : builtOk es = true) (hi : OwnI W w.heap.size vb (builtT es).bits) (hk : OwnS W w.heap.size vk (builtT es).blocks) (hb : Below w.heap.size w W) : BuiltPost w (builtL es) (builtOk es) (.returned (.tuple #[.agg #[.string (builtT es).first, .string (builtT es).last, vb, vk], .bool true])) W := by
  unfold builtL
  rw [h, if_pos rfl]
  exact ⟨_, _, rfl, hi, hk, hb⟩
set_option maxHeartbeats 1000000 in
set_option maxRecDepth 100000 in
theorem specBuilt_any (v : Value) (es : List Ent) (w : World) (hr : RdE w v es) (hf : ∀ e ∈ es, Fits e) :
    Calls Try.prog 23 #[v] w fun e w' => BuiltPost w (builtL es) (builtOk es) e w' := by
  have HF : Hid (∀ e ∈ es, Fits e) := hf
  clear hf
  obtain ⟨a, cap, hv, hl, hm, _⟩ := id hr
  obtain ⟨nn, hnn⟩ : ∃ nn, nn = es.length := ⟨_, rfl⟩
  have HNN : Hid (nn = es.length) := hnn
  rw [← hnn] at hv hl
  subst hv
  clear hnn
  unfold maxLen at hm
  have hz := boxT_new w ⟨#[]⟩ ⟨#[]⟩ (.slice none 0 0) (.slice none 0 0)
  have b0 := below1 w (.cells #[.string ⟨#[]⟩, .string ⟨#[]⟩, .slice none 0 0, .slice none 0 0] 41)
  have hr0 := hr.below b0
  cases hok : okL es with
  | false =>
    have HOK : Hid (okL es = false) := hok
    have RES : Hid (builtOk es = false) := by unfold Hid builtOk; rw [hok]; rfl
    clear hok
    go_enter Try.func23, Try.ntmps23
    go_wp2_with fail
    refine (specOk_no _ es _ hr0 HF.out HOK.out).mono ?_
    rintro e w1 ⟨rfl, hb1⟩
    obtain ⟨z0, z1, z2, z3, f0, f1, f2, f3⟩ := (hz.below hb1).facts
    have b1 := b0.trans (hb1.mono b0.size)
    clear hz hb1
    go_wp2
    exact bodyPost_ret (v := .tuple #[.agg #[.string ⟨#[]⟩, .string ⟨#[]⟩, .slice none 0 0, .slice none 0 0], .bool false]) (by simp [results, Try.results23, go_sem, z0, z1, z2, z3]) rfl (builtPost_no RES.out (below4 b1 (Nat.le_refl _) _ _ _ _ _ _ _ _))
  | true =>
    have HOK : Hid (okL es = true) := hok
    have hlen := okL_len hok
    rw [← HNN.out] at hlen
    by_cases h0 : nn = 0
    · have RES : Hid (builtOk es = false) := by unfold Hid builtOk; rw [← HNN.out, h0]; simp
      have hd : ((nn : Int) == 0) = true := by simp; omega
      clear hok h0
      go_enter Try.func23, Try.ntmps23
      go_wp2_with fail
      refine (specOk_yes _ es _ hr0 HF.out HOK.out).mono ?_
      rintro e w1 ⟨rfl, hb1⟩
      obtain ⟨z0, z1, z2, z3, f0, f1, f2, f3⟩ := (hz.below hb1).facts
      have b1 := b0.trans (hb1.mono b0.size)
      clear hz hb1
      go_wp2
      exact bodyPost_ret (v := .tuple #[.agg #[.string ⟨#[]⟩, .string ⟨#[]⟩, .slice none 0 0, .slice none 0 0], .bool false]) (by simp [results, Try.results23, go_sem, z0, z1, z2, z3]) rfl (builtPost_no RES.out (below4 b1 (Nat.le_refl _) _ _ _ _ _ _ _ _))
    · have RES : Hid (builtOk es = true) := by unfold Hid builtOk; rw [hok, ← HNN.out]; simp [h0]
      have hd : ((nn : Int) == 0) = false := by simp; omega
      have HC : Hid (∀ W, RdE W (.slice a nn cap) es → Calls Try.prog 63 #[.slice a nn cap] W fun e w' => TabPost W (builtT es) e w') := fun W h => l5Built_any _ es W h (fun e he => okE_pk (okL_all HOK.out e he)) (by rw [← HNN.out]; omega) (by rw [← HNN.out]; omega)
      have HY : Hid (∀ W vb vk, OwnI W w.heap.size vb (builtT es).bits → OwnS W w.heap.size vk (builtT es).blocks → Below w.heap.size w W → BuiltPost w (builtL es) (builtOk es) (.returned (.tuple #[.agg #[.string (builtT es).first, .string (builtT es).last, vb, vk], .bool true])) W) := fun W vb vk h1 h2 h3 => builtPost_yes RES.out h1 h2 h3
      clear hok h0
      generalize builtT es = T at HC HY
      go_enter Try.func23, Try.ntmps23
      go_wp2_with fail
      refine (specOk_yes _ es _ hr0 HF.out HOK.out).mono ?_
      rintro e w1 ⟨rfl, hb1⟩
      have hz1 := hz.below hb1
      have b1 := b0.trans (hb1.mono b0.size)
      clear hz
      go_wp2_with fail
      refine (HC.out _ (hr0.below hb1)).mono ?_
      rintro e w2 ⟨vb, vk, rfl, hvb, hvk, hb2⟩
      have hz2 := hz1.below hb2
      obtain ⟨z0, z1, z2, z3, f0, f1, f2, f3⟩ := hz2.facts
      have b2 := b1.trans (hb2.mono b1.size)
      have hvb2 := hvb.mono b1.size
      have hvk2 := hvk.mono b1.size
      have nb := boxT_row hz2 hvb2 (by decide)
      have nk := boxT_row hz2 hvk2 (by decide)
      obtain ⟨ab, cb, hsb, _⟩ := id hvb2.rd
      obtain ⟨ak, ck, hsk, _⟩ := id hvk2.rd
      generalize T.bits.length = bn at hsb
      generalize T.blocks.length = kn at hsk
      subst hsb
      subst hsk
      clear hz1 hb1 hb2 hvb hvk
      go_wp2
      exact bodyPost_ret (v := .tuple #[.agg #[.string T.first, .string T.last, .slice ab bn cb, .slice ak kn ck], .bool true]) (by simp [results, Try.results23, go_sem, z0, z1, z2, z3]) rfl (HY.out _ _ _ (row_set (row_set (row_set (row_set hvb2 nb) nb) nb) nb) (row_set (row_set (row_set (row_set hvk2 nk) nk) nk) nk) (below4 b2 (Nat.le_refl _) _ _ _ _ _ _ _ _))
end Go.Proofs.Ythaobdknpgnapaa
namespace Go.Proofs.Ythaobdknpgnapaa
open Go.RowKit
/-- The digits of k ahead of acc. -/
def digs (k : Nat) (acc : List UInt8) : List UInt8 := if h : k = 0 then acc else digs (k / 10) (UInt8.ofNat (48 + k % 10) :: acc)
theorem digs_zero (acc : List UInt8) : digs 0 acc = acc := by rw [digs, dif_pos rfl]
theorem digs_step (k : Nat) (h : 0 < k) (acc : List UInt8) : digs k acc = digs (k / 10) (UInt8.ofNat (48 + k % 10) :: acc) := by rw [digs, dif_neg (by omega)]
/-- The law's mark number k. -/
def mk (k : Nat) : ByteArray := ⟨((109 : UInt8) :: digs k []).toArray⟩
end Go.Proofs.Ythaobdknpgnapaa
namespace Go.Proofs.Ythaobdknpgnapaa
open Go.RowKit
theorem ret_i64 {a b : Int} (h : a = b) : Ending.returned (.int .i64 a) = .returned (.int .i64 b) := by rw [h]
theorem made_IV (n : Nat) : (madeCells #[Value.int .i64 0] n).toList = IV (List.replicate n 0) := by
  rw [toList_madeCells_one]
  simp [IV]
theorem cpI_step (bs : List Int) (k : Nat) (h : k < bs.length) : (bs.take k ++ List.replicate (bs.length - k) 0).set k bs[k] = bs.take (k + 1) ++ List.replicate (bs.length - (k + 1)) 0 := by
  have hl : (bs.take k).length = k := by rw [List.length_take]; omega
  rw [List.set_append_right _ _ (by omega), hl, Nat.sub_self]
  obtain ⟨m, hm⟩ : ∃ m, bs.length - k = m + 1 := ⟨bs.length - k - 1, by omega⟩
  have hm2 : bs.length - (k + 1) = m := by omega
  rw [hm, hm2, List.replicate_succ, List.set_cons_zero, List.take_succ_eq_append_getElem h, List.append_assoc, List.singleton_append]
theorem cpI_len (bs : List Int) (k : Nat) (h : k ≤ bs.length) : (bs.take k ++ List.replicate (bs.length - k) 0).length = bs.length := by
  rw [List.length_append, List.length_take, List.length_replicate]; omega
set_option maxHeartbeats 400000 in
set_option maxRecDepth 100000 in
theorem toInts_any (v : Value) (bs : List Int) (w : World) (hr : RdI w v bs) (hs : bs.length ≤ 1073741824) :
    Calls Try.prog 78 #[v] w fun e w' => ∃ u, e = .returned u ∧ OwnI w' w.heap.size u bs ∧ Below w.heap.size w w' := by
  obtain ⟨i0, hi, hz0, hz1, hz2⟩ := info_parts Try.info2
  obtain ⟨a, cap, hv, hl, hm, _, hA⟩ := hr
  subst hv
  go_enter Try.func78, Try.ntmps78
  go_wp2_with (at_make; (refine wpList_make_full _ rfl _ _ 38 rfl w.heap.size 2 i0 (.int .i64 0) 1 Try.underlying38 hi hz0 hz1 .i64 .i64 (bs.length : Int) (bs.length : Int) bs.length rfl rfl rfl rfl ?c1 ?c2 ?c3 ?_))
  case c1 => rw [hz2]; omega
  case c2 => unfold maxLen; omega
  case c3 => omega
  intro w1 ho1 hg1
  rw [made_IV] at ho1
  have hb1 : Below w.heap.size w w1 := (Below.refl _ _).grown hg1 (Nat.le_refl _) (fun k hk => by cases hk)
  clear hg1
  go_wp2
  go_loopw [4] (fun i wr => ∃ k : Nat, k ≤ bs.length ∧ i = .int .i64 k ∧ wr.ownsRow w.heap.size 2 1 (.slice (some ⟨w.heap.size, 0, none⟩) bs.length bs.length) bs.length (IV (bs.take k ++ List.replicate (bs.length - k) 0)) ∧ Below w.heap.size w wr) (fun i _ => bs.length - (intOf i).toNat)
  case atStart => exact ⟨0, Nat.zero_le _, rfl, by simpa using ho1, hb1⟩
  case round =>
    obtain ⟨k, hk, rfl, ho, hb⟩ := hrel
    clear ho1 hb1
    by_cases hlt : k < bs.length
    · obtain ⟨b, off, ha, hc⟩ : ∃ b off, a = some ⟨b, off, none⟩ ∧ wr.cell? ⟨b, off + k, none⟩ = some (.int .i64 bs[k]) := by
        rcases hA with h | ⟨b, off, ha, hc⟩
        · subst h; simp at hlt
        · exact ⟨b, off, ha, by rw [hb.cell (World.block_lt_of_cell? w _ (hc k hlt))]; exact hc k hlt⟩
      rw [ha]
      have hc2 := (ho.cellAt k (by omega)).trans (IV_get _ k (by rw [cpI_len bs k hk]; exact hlt))
      have hf := ho.frozenAt k
      have R1 := (ho.stored k (.int .i64 bs[k])).1
      rw [← IV_set, cpI_step bs k hlt] at R1
      have R2 : Below w.heap.size w (wr.setCell ⟨w.heap.size, k, none⟩ (.int .i64 bs[k])) := hb.setCell (Nat.le_refl _) _
      have H1 : Hid (World.ownsRow _ _ _ _ _ _ _) := R1
      clear ho hA hb R1
      go_wp2
      go_roundw
      case rel => exact ⟨k + 1, by omega, by go_num, H1.out, R2⟩
      case measure => simp [intOf]; omega
    · have hke : k = bs.length := by omega
      subst hke
      have H1 : OwnI wr w.heap.size (.slice (some ⟨w.heap.size, 0, none⟩) bs.length bs.length) bs := by unfold OwnI; simpa using ho
      clear ho
      go_wp2
      go_ret
      exact ⟨_, rfl, H1, hb⟩
set_option maxHeartbeats 1000000 in
set_option maxRecDepth 100000 in
theorem eqInts_same (va vb : Value) (xs : List Int) (w : World) (ha : RdI w va xs) (hb : RdI w vb xs) :
    Calls Try.prog 80 #[va, vb] w fun e w' => e = .returned (.bool true) ∧ ∃ n, w' = w.drewN n := by
  obtain ⟨aa, ca, hva, hla, hma, _⟩ := id ha
  obtain ⟨ab, cb, hvb, hlb, hmb, _⟩ := id hb
  subst hva
  subst hvb
  unfold maxLen at hma hmb
  have hne : ((xs.length : Int) != (xs.length : Int)) = false := by simp
  go_enter Try.func80, Try.ntmps80
  go_wp2
  go_loopw [5] (fun i wr => ∃ k : Nat, k ≤ xs.length ∧ i = .int .i64 k ∧ ∃ n, wr = w.drewN n) (fun i _ => xs.length - (intOf i).toNat)
  case atStart => exact ⟨0, Nat.zero_le _, rfl, 0, rfl⟩
  case round =>
    obtain ⟨k, hk, rfl, n, rfl⟩ := hrel
    by_cases hlt : k < xs.length
    · obtain ⟨b1, o1, rfl, c1⟩ := (ha.drewN n).at k hlt
      obtain ⟨b2, o2, rfl, c2⟩ := (hb.drewN n).at k hlt
      generalize xs[k] = x at c1 c2
      have hd : (x != x) = false := by simp
      go_wp2_with fail
      refine wp_region_noPanic ?_
      refine wp_region_held_drew (S := fun w' => w'.cell? ⟨b1, o1 + k, none⟩ = some (.int .i64 x) ∧ w'.cell? ⟨b2, o2 + k, none⟩ = some (.int .i64 x)) (by kernel_rfl) ⟨c1, c2⟩ (fun hH => ?_)
      refine tkA 0 17 hH ?_
      try simp only [Act.put, List.setIfInBounds_toArray, List.set_cons_zero, List.set_cons_succ]
      refine tkA 1 18 hH ?_
      try simp only [Act.put, List.setIfInBounds_toArray, List.set_cons_zero, List.set_cons_succ]
      refine tkA 2 19 hH ?_
      try simp only [Act.put, List.setIfInBounds_toArray, List.set_cons_zero, List.set_cons_succ]
      refine tkA 3 20 hH ?_
      try simp only [Act.put, List.setIfInBounds_toArray, List.set_cons_zero, List.set_cons_succ]
      refine tkA 4 21 hH ?_
      try simp only [Act.put, List.setIfInBounds_toArray, List.set_cons_zero, List.set_cons_succ]
      refine tkA 5 22 hH ?_
      try simp only [Act.put, List.setIfInBounds_toArray, List.set_cons_zero, List.set_cons_succ]
      refine tkA 6 23 hH ?_
      try simp only [Act.put, List.setIfInBounds_toArray, List.set_cons_zero, List.set_cons_succ]
      refine tkA 7 24 hH ?_
      try simp only [Act.put, List.setIfInBounds_toArray, List.set_cons_zero, List.set_cons_succ]
      refine tkA 8 25 hH ?_
      try simp only [Act.put, List.setIfInBounds_toArray, List.set_cons_zero, List.set_cons_succ]
      refine wpAnyH_done (by kernel_rfl) ?_ _
      refine NoPanic.normal ?_
      go_wp2
      go_roundw
      case rel => exact ⟨k + 1, by omega, by go_num, n + 1, rfl⟩
      case measure => simp [intOf]; omega
    · have hlt2 : ¬ (k : Int) < (xs.length : Int) := by omega
      go_wp2
      go_ret
      exact ⟨rfl, n, rfl⟩
/-- The marks that are laid from number k on. -/
def imarks (k n : Nat) : List Int := (List.range n).map fun i => ((k + i : Nat) : Int)
theorem imarks_length (k n : Nat) : (imarks k n).length = n := by simp [imarks]
theorem imarks_succ (k n : Nat) : imarks k (n + 1) = imarks k n ++ [((k + n : Nat) : Int)] := by simp [imarks, List.range_succ]
theorem imarks_get (k n i : Nat) (h : i < (imarks k n).length) : (imarks k n)[i] = ((k + i : Nat) : Int) := by simp [imarks]
theorem imark_step (k i : Nat) (bs : List Int) (h : i < bs.length) : (imarks k i ++ bs.drop i).set i ((k + i : Nat) : Int) = imarks k (i + 1) ++ bs.drop (i + 1) := by
  have hl := imarks_length k i
  rw [List.set_append_right _ _ (by omega), hl, Nat.sub_self, List.drop_eq_getElem_cons h, List.set_cons_zero, imarks_succ, List.append_assoc, List.singleton_append]
end Go.Proofs.Ythaobdknpgnapaa
namespace Go.Proofs.Ythaobdknpgnapaa
open Go.RowKit
set_option maxHeartbeats 400000 in
set_option maxRecDepth 100000 in
theorem eqTexts_same (va vb : Value) (bs : List ByteArray) (w : World) (ha : RdS w va bs) (hb : RdS w vb bs) :
    Calls Try.prog 81 #[va, vb] w fun e w' => e = .returned (.bool true) ∧ ∃ q, w' = w.drewN q := by
  obtain ⟨aa, ca, rfl, hla, hma, hA⟩ := ha
  obtain ⟨ab, cb, rfl, hlb, hmb, hB⟩ := hb
  unfold maxLen at hma hmb
  have hne : ((bs.length : Int) != (bs.length : Int)) = false := by simp
  rcases hA with rfl | ⟨ba, offa, rfl, hA⟩
  · go_enter Try.func81, Try.ntmps81
    go_wp2
    refine wp_loop_rounds 1 ?_
    rw [rounds_succ]
    go_wp2
    go_ret
    exact ⟨rfl, 0, rfl⟩
  · rcases hB with rfl | ⟨bb, offb, rfl, hB⟩
    · go_enter Try.func81, Try.ntmps81
      go_wp2
      refine wp_loop_rounds 1 ?_
      rw [rounds_succ]
      go_wp2
      go_ret
      exact ⟨rfl, 0, rfl⟩
    · go_enter Try.func81, Try.ntmps81
      go_wp2
      go_loopw [5] (fun i wr => ∃ k : Nat, k ≤ bs.length ∧ i = .int .i64 k ∧ ∃ q, wr = w.drewN q) (fun i _ => bs.length - (intOf i).toNat)
      case atStart => exact ⟨0, Nat.zero_le _, rfl, 0, rfl⟩
      case round =>
        obtain ⟨k, hk, rfl, q, rfl⟩ := hrel
        by_cases hlt : k < bs.length
        · have h1 := hA k hlt
          have h2 := hB k hlt
          clear hA hB
          go_wp2
          go_quiet (fail)
          go_wp2
          go_roundw
          case rel => exact ⟨k + 1, by omega, by go_num, _, rfl⟩
          case measure => simp [intOf]; omega
        · go_wp2
          go_ret
          exact ⟨rfl, q, rfl⟩

def smarks (k n : Nat) : List ByteArray := (List.range n).map fun i => mk (k + i)
theorem smarks_length (k n : Nat) : (smarks k n).length = n := by simp [smarks]
theorem smarks_succ (k n : Nat) : smarks k (n + 1) = smarks k n ++ [mk (k + n)] := by simp [smarks, List.range_succ]
theorem smarks_get (k n i : Nat) (h : i < (smarks k n).length) : (smarks k n)[i] = mk (k + i) := by simp [smarks]
theorem smark_step (k i : Nat) (bs : List ByteArray) (h : i < bs.length) : (smarks k i ++ bs.drop i).set i (mk (k + i)) = smarks k (i + 1) ++ bs.drop (i + 1) := by
  rw [smarks_succ, List.set_append_right _ _ (by rw [smarks_length]; omega), smarks_length, Nat.sub_self, List.drop_eq_getElem_cons h, List.set_cons_zero]
  simp
/-- What the marking leaves: nothing below the row's base has turned but for new blocks and the row itself. -/
theorem smark_frame {w wr w1 : World} {g : Nat} {u : Value} {j : Nat} (hg : w.grownBy wr (some g)) (hb : Below wr.heap.size wr w1) : w.grownBy (w1.setCell ⟨g, j, none⟩ u) (some g) :=
  ⟨hb.os.trans hg.os, hb.tape.trans hg.tape, hb.output.trans hg.output, by have := hg.size; have := hb.size; simp; omega, fun k hk hr => by
    rw [heap_setCell_other w1 ⟨g, j, none⟩ k u (fun e => hr (by simp [e])), hb.block k (by have := hg.size; omega)]
    exact hg.block k hk hr⟩
theorem grownBy_one (a : World) (row : Option Nat) : a.grownBy a row := ⟨rfl, rfl, rfl, Nat.le_refl _, fun _ _ _ => rfl⟩

end Go.Proofs.Ythaobdknpgnapaa
