/- The contract of the model's l5Built: the table of some entries. The contract of the model's Built. The contract of the law's own mark of a number, as a text. The contracts of the laws' own helpers over slices of numbers: copied, alike, marked, held. The contracts of the laws' own helpers over slices of texts, over MarkText: alike, marked, held. -/
import Derived.Test.YtjnhhdnfncfedaaTabSpec2
import Derived.Test.YtjnhhdnfncfedaaG03
import Derived.Test.YtjnhhdnfncfedaaG00
import Derived.Deep.RegionHeld3
import Derived.Test.YtjnhhdnfncfedaaG07
import Derived.Test.YtjnhhdnfncfedaaG04
import Derived.BigQuiet
import Derived.Deep.RegionWith
namespace Go.Proofs.Ytjnhhdnfncfedaa
open Go.RowKit
/-- A table's box at block b. -/
def BoxT (w : World) (b : Nat) (f l : ByteArray) (vb vk : Value) : Prop := w.heap[b]? = some (.cells #[.string f, .string l, vb, vk] 62 (0, 0))
theorem BoxT.lt {w : World} {b : Nat} {f l : ByteArray} {vb vk : Value} (h : BoxT w b f l vb vk) : b < w.heap.size := (Array.getElem?_eq_some_iff.1 h).1
theorem BoxT.block {w w' : World} {b : Nat} {f l : ByteArray} {vb vk : Value} (h : BoxT w b f l vb vk) (hb : w'.heap[b]? = w.heap[b]?) : BoxT w' b f l vb vk := hb.trans h
theorem BoxT.below {w w' : World} {b : Nat} {f l : ByteArray} {vb vk : Value} (h : BoxT w b f l vb vk) (hb : Below w.heap.size w w') : BoxT w' b f l vb vk := h.block (hb.block b h.lt)
theorem BoxT.facts {w : World} {b : Nat} {f l : ByteArray} {vb vk : Value} (h : BoxT w b f l vb vk) : w.cell? ⟨b, 0, none⟩ = some (.string f) ∧ w.cell? ⟨b, 1, none⟩ = some (.string l) ∧ w.cell? ⟨b, 2, none⟩ = some vb ∧ w.cell? ⟨b, 3, none⟩ = some vk ∧
    w.frozen? ⟨b, 0, none⟩ = false ∧ w.frozen? ⟨b, 1, none⟩ = false ∧ w.frozen? ⟨b, 2, none⟩ = false ∧ w.frozen? ⟨b, 3, none⟩ = false := by
  unfold BoxT at h
  refine ⟨?_, ?_, ?_, ?_, ?_, ?_, ?_, ?_⟩ <;> simp [World.cell?, World.frozen?, h]
theorem boxT_new (w : World) (f l : ByteArray) (vb vk : Value) : BoxT (w.alloc (.cells #[.string f, .string l, vb, vk] 62)) w.heap.size f l vb vk := heap_alloc_new w _
theorem boxT_set4 {w : World} {b : Nat} {f l f' l' : ByteArray} {vb vk vb' vk' : Value} (h : BoxT w b f l vb vk) : BoxT ((((w.setCell ⟨b, 0, none⟩ (.string f')).setCell ⟨b, 1, none⟩ (.string l')).setCell ⟨b, 2, none⟩ vb').setCell ⟨b, 3, none⟩ vk') b f' l' vb' vk' := by
  unfold BoxT at h ⊢
  have h1 := heap_setCell_same w b 0 _ _ (.string f') h
  have h2 := heap_setCell_same _ b 1 _ _ (.string l') h1
  have h3 := heap_setCell_same _ b 2 _ _ vb' h2
  have h4 := heap_setCell_same _ b 3 _ _ vk' h3
  exact h4
theorem boxT_set3 {w : World} {b : Nat} {f l : ByteArray} {vb vk vk' : Value} (h : BoxT w b f l vb vk) : BoxT (w.setCell ⟨b, 3, none⟩ vk') b f l vb vk' := by
  unfold BoxT at h ⊢
  exact heap_setCell_same w b 3 _ _ vk' h
theorem boxT_row {w : World} {B b t s n : Nat} {f l : ByteArray} {vb vk v : Value} {xs : List Value} (h : BoxT w b f l vb vk) (ho : w.ownsRow B t s v n xs) (ht : t ≠ 62) : ∀ k, v.ownBlock = some k → b ≠ k := by
  intro k hk e
  subst e
  rcases ho.2 with ⟨rfl, _⟩ | ⟨g, cap, cur, rfl, _, hg, _⟩
  · simp [Value.ownBlock] at hk
  · obtain rfl : g = b := by simpa [Value.ownBlock] using hk
    unfold BoxT at h
    rw [h] at hg
    injection hg with hg
    injection hg with _ h2
    exact ht h2.symm
theorem row_set {w : World} {B t s n c j : Nat} {v u : Value} {xs : List Value} (ho : w.ownsRow B t s v n xs) (hc : ∀ k, v.ownBlock = some k → c ≠ k) : (w.setCell ⟨c, j, none⟩ u).ownsRow B t s v n xs :=
  row_kept ho (⟨rfl, rfl, rfl, by simp, fun k _ hk => heap_setCell_other w ⟨c, j, none⟩ k u (fun e => hk (by simp [e]))⟩ : w.grownBy (w.setCell ⟨c, j, none⟩ u) (some c)) (fun k hk e => hc k hk (Option.some.inj e))
theorem entAt_set4 {w : World} {b o c : Nat} {e : Ent} (h : EntAt w b o e) (hne : b ≠ c) (u0 u1 u2 u3 : Value) (i j k l : Nat) : EntAt ((((w.setCell ⟨c, i, none⟩ u0).setCell ⟨c, j, none⟩ u1).setCell ⟨c, k, none⟩ u2).setCell ⟨c, l, none⟩ u3) b o e :=
  h.of_block ((heap_setCell_other _ ⟨c, l, none⟩ b u3 hne).trans ((heap_setCell_other _ ⟨c, k, none⟩ b u2 hne).trans ((heap_setCell_other _ ⟨c, j, none⟩ b u1 hne).trans (heap_setCell_other w ⟨c, i, none⟩ b u0 hne))))
theorem rows_apart {w : World} {B1 B2 t1 t2 s1 s2 n1 n2 : Nat} {v1 v2 : Value} {xs ys : List Value} (h1 : w.ownsRow B1 t1 s1 v1 n1 xs) (h2 : w.ownsRow B2 t2 s2 v2 n2 ys) (ht : t1 ≠ t2) : ∀ k, v1.ownBlock = some k → v2.ownBlock = some k → False := by
  intro k hk1 hk2
  rcases h1.2 with ⟨rfl, _⟩ | ⟨g, cap, cur, rfl, _, hg, _⟩
  · simp [Value.ownBlock] at hk1
  · rcases h2.2 with ⟨rfl, _⟩ | ⟨g2, cap2, cur2, rfl, _, hg2, _⟩
    · simp [Value.ownBlock] at hk2
    · obtain rfl : g = k := by simpa [Value.ownBlock] using hk1
      obtain rfl : g2 = g := by simpa [Value.ownBlock] using hk2
      rw [hg] at hg2
      injection hg2 with hg2
      injection hg2 with _ h3
      exact ht h3
/-- append of one text onto a row of the call's own. -/
theorem run_append_txt1 (ty : TypeId) {w : World} {base bP : Nat} {v : Value} {ys : List ByteArray} {x : ByteArray} (hown : OwnS w base v ys) (hc : w.cell? ⟨bP, 0, none⟩ = some (.string x)) (hl : ys.length ≤ 1000000) (hbase : base ≤ w.heap.size) :
    ∃ v' w', (Builtin.append_ #[57, 57] ty #[v, .slice (some ⟨bP, 0, none⟩) 1 1]).run Try.prog w = .ok v' w' ∧ OwnS w' base v' (ys ++ [x]) ∧ w.grownBy w' v.ownBlock := by
  obtain ⟨i0, hi, hz0, hz1, hz2⟩ := info_parts Try.info9
  obtain ⟨v', w', hrun, r1, r2, _⟩ := run_append_own (P := Try.prog) w base 57 ty 9 i0 _ 1 16 Try.underlying57 hi hz0 hz1 hz2 rfl (by decide) v ys.length (SV ys) hown ⟨bP, 0, none⟩ 1 1 [.string x] rfl (fun j u hj => by
    match j, hj with
    | 0, hj => simp at hj; subst hj; exact hc) (fun u hu => by simp at hu; subst hu; rfl) (by unfold maxLen; omega) (by omega) hbase
  exact ⟨v', w', hrun, ownS_push r1, r2⟩
theorem step_append_txt1 {w : World} {ops : Array Oper} {o : Oper} {a : Act} {K : Act → World → Prop} {Q : Exit → Act → World → Prop} {E : Prop} (hgd : o.guard = none) (d : Nat) (hd : o.dst = some d) (s x : Operand)
    (ho : o.op = .call { callee := .builtin .append, args := #[s, x], argTypes := #[57, 57] }) (base bP : Nat) (v : Value) (ys : List ByteArray) (y : ByteArray) (hs : a.eval s = v) (hx : a.eval x = .slice (some ⟨bP, 0, none⟩) 1 1) (hown : OwnS w base v ys) (hc : w.cell? ⟨bP, 0, none⟩ = some (.string y)) (hl : ys.length ≤ 1000000) (hbase : base ≤ w.heap.size)
    (h : ∀ v' w', OwnS w' base v' (ys ++ [y]) → w.grownBy w' v.ownBlock → K (a.put (some d) v') w') :
    if Region.wanted o (yielded ops a.tmps) = true then Oper.wp Try.prog o a w K Q else E := by
  have hw : Region.wanted o (yielded ops a.tmps) = true := by simp [Region.wanted, hgd]
  rw [if_pos hw]
  obtain ⟨v', w', hrun, r1, r2⟩ := run_append_txt1 o.type hown hc hl hbase
  unfold Oper.wp
  simp [execOp, ho, resolve, invoke, builtin, hs, hx, hrun, Result.andThen]
  have h' := h v' w' r1 r2
  rw [← hd] at h'
  exact h'
/-- What makes a table leaves. -/
def TabPost (w : World) (T : Tbl) (e : Ending) (w' : World) : Prop :=
  ∃ vb vk, e = .returned (.agg #[.string T.first, .string T.last, vb, vk]) ∧ OwnI w' w.heap.size vb T.bits ∧ OwnS w' w.heap.size vk T.blocks ∧ Below w.heap.size w w'
theorem rdE_sub {w : World} {b off n cap i k : Nat} {es : List Ent} (h : RdE w (.slice (some ⟨b, off, none⟩) n cap) es) (hi : i ≤ k) (hk : k ≤ es.length) (hlt : i < cap) : RdE w (.slice (some ⟨b, off + i * 4, none⟩) (k - i) (cap - i)) ((es.drop i).take (k - i)) := by
  obtain ⟨a', cap', hv, h1, h2, h0, h3⟩ := h
  simp only [Value.slice.injEq] at hv
  obtain ⟨rfl, _, rfl⟩ := hv
  have hl : ((es.drop i).take (k - i)).length = k - i := by rw [List.length_take, List.length_drop]; omega
  refine ⟨_, _, by rw [hl], by omega, by omega, (fun h => by cases h), ?_⟩
  rcases h3 with rfl | ⟨b', off', ha, hc⟩
  · exact .inl (by simp)
  · cases ha
    refine .inr ⟨b, off + i * 4, rfl, fun j hj => ?_⟩
    have hn : nth ((es.drop i).take (k - i)) j = nth es (i + j) := by
      rw [nth_eq hj, nth_eq (by omega), List.getElem_take, List.getElem_drop]
    rw [hn, show off + i * 4 + j * 4 = off + (i + j) * 4 by omega]
    exact hc (i + j) (by omega)
theorem blkF_at (es : List Ent) {n i : Nat} : blkF es (n + 1) i = ⟨(packA (chunk es i)).toArray⟩ :: blkF es n (i + 8) := rfl
end Go.Proofs.Ytjnhhdnfncfedaa
namespace Go.Proofs.Ytjnhhdnfncfedaa
open Go.RowKit
/-- What Built leaves. -/
def BuiltPost (w : World) (T : Tbl) (ok : Bool) (e : Ending) (w' : World) : Prop :=
  ∃ vb vk, e = .returned (.tuple #[.agg #[.string T.first, .string T.last, vb, vk], .bool ok]) ∧ OwnI w' w.heap.size vb T.bits ∧ OwnS w' w.heap.size vk T.blocks ∧ Below w.heap.size w w'
theorem ownI_zero (w : World) (B : Nat) : OwnI w B (.slice none 0 0) [] := ⟨rfl, .inl ⟨rfl, rfl⟩⟩
theorem ownS_zero (w : World) (B : Nat) : OwnS w B (.slice none 0 0) [] := ⟨rfl, .inl ⟨rfl, rfl⟩⟩
theorem builtPost_no {w W : World} {es : List Ent} (h : builtOk es = false) (hb : Below w.heap.size w W) : BuiltPost w (builtL es) (builtOk es) (.returned (.tuple #[.agg #[.string ⟨#[]⟩, .string ⟨#[]⟩, .slice none 0 0, .slice none 0 0], .bool false])) W := by
  unfold builtL
  rw [h, if_neg (by simp)]
  exact ⟨_, _, rfl, ownI_zero _ _, ownS_zero _ _, hb⟩
theorem builtPost_yes {w W : World} {es : List Ent} {vb vk : Value} (h : builtOk es = true) (hi : OwnI W w.heap.size vb (builtT es).bits) (hk : OwnS W w.heap.size vk (builtT es).blocks) (hb : Below w.heap.size w W) : BuiltPost w (builtL es) (builtOk es) (.returned (.tuple #[.agg #[.string (builtT es).first, .string (builtT es).last, vb, vk], .bool true])) W := by
  unfold builtL
  rw [h, if_pos rfl]
  exact ⟨_, _, rfl, hi, hk, hb⟩
end Go.Proofs.Ytjnhhdnfncfedaa
namespace Go.Proofs.Ytjnhhdnfncfedaa
open Go.RowKit
/-- The digits of k ahead of acc. -/
def digs (k : Nat) (acc : List UInt8) : List UInt8 := if h : k = 0 then acc else digs (k / 10) (UInt8.ofNat (48 + k % 10) :: acc)
theorem digs_zero (acc : List UInt8) : digs 0 acc = acc := by rw [digs, dif_pos rfl]
theorem digs_step (k : Nat) (h : 0 < k) (acc : List UInt8) : digs k acc = digs (k / 10) (UInt8.ofNat (48 + k % 10) :: acc) := by rw [digs, dif_neg (by omega)]
/-- The law's mark number k. -/
def mk (k : Nat) : ByteArray := ⟨((109 : UInt8) :: digs k []).toArray⟩
end Go.Proofs.Ytjnhhdnfncfedaa
namespace Go.Proofs.Ytjnhhdnfncfedaa
open Go.RowKit
theorem ret_i64 {a b : Int} (h : a = b) : Ending.returned (.int .i64 a) = .returned (.int .i64 b) := by rw [h]
theorem made_IV (n : Nat) : (madeCells #[Value.int .i64 0] n).toList = IV (List.replicate n 0) := by
  rw [toList_madeCells_one]
  simp [IV]
theorem cpI_step (bs : List Int) (k : Nat) (h : k < bs.length) : (bs.take k ++ List.replicate (bs.length - k) 0).set k bs[k] = bs.take (k + 1) ++ List.replicate (bs.length - (k + 1)) 0 := by
  have hl : (bs.take k).length = k := by rw [List.length_take]; omega
  rw [List.set_append_right _ _ (by omega), hl, Nat.sub_self]
  obtain ⟨m, hm⟩ : ∃ m, bs.length - k = m + 1 := ⟨bs.length - k - 1, by omega⟩
  have hm2 : bs.length - (k + 1) = m := by omega
  rw [hm, hm2, List.replicate_succ, List.set_cons_zero, List.take_succ_eq_append_getElem h, List.append_assoc, List.singleton_append]
theorem cpI_len (bs : List Int) (k : Nat) (h : k ≤ bs.length) : (bs.take k ++ List.replicate (bs.length - k) 0).length = bs.length := by
  rw [List.length_append, List.length_take, List.length_replicate]; omega
set_option maxHeartbeats 400000 in
set_option maxRecDepth 100000 in
theorem toInts_any (v : Value) (bs : List Int) (w : World) (hr : RdI w v bs) (hs : bs.length ≤ 1073741824) :
    Calls Try.prog 17 #[v] w fun e w' => ∃ u, e = .returned u ∧ OwnI w' w.heap.size u bs ∧ Below w.heap.size w w' := by
  obtain ⟨i0, hi, hz0, hz1, hz2⟩ := info_parts Try.info2
  obtain ⟨a, cap, hv, hl, hm, _, hA⟩ := hr
  subst hv
  go_enter Try.func17, Try.ntmps17
  go_wp2_with (at_make; (refine wpList_make_full _ rfl _ _ 24 rfl w.heap.size 2 i0 (.int .i64 0) 1 Try.underlying24 hi hz0 hz1 .i64 .i64 (bs.length : Int) (bs.length : Int) bs.length rfl rfl rfl rfl ?c1 ?c2 ?c3 ?_))
  case c1 => rw [hz2]; omega
  case c2 => unfold maxLen; omega
  case c3 => omega
  intro w1 ho1 hg1
  rw [made_IV] at ho1
  have hb1 : Below w.heap.size w w1 := (Below.refl _ _).grown hg1 (Nat.le_refl _) (fun k hk => by cases hk)
  clear hg1
  go_wp2
  go_loopw [4] (fun i wr => ∃ k : Nat, k ≤ bs.length ∧ i = .int .i64 k ∧ wr.ownsRow w.heap.size 2 1 (.slice (some ⟨w.heap.size, 0, none⟩) bs.length bs.length) bs.length (IV (bs.take k ++ List.replicate (bs.length - k) 0)) ∧ Below w.heap.size w wr) (fun i _ => bs.length - (intOf i).toNat)
  case atStart => exact ⟨0, Nat.zero_le _, rfl, by simpa using ho1, hb1⟩
  case round =>
    obtain ⟨k, hk, rfl, ho, hb⟩ := hrel
    clear ho1 hb1
    by_cases hlt : k < bs.length
    · obtain ⟨b, off, ha, hc⟩ : ∃ b off, a = some ⟨b, off, none⟩ ∧ wr.cell? ⟨b, off + k, none⟩ = some (.int .i64 bs[k]) := by
        rcases hA with h | ⟨b, off, ha, hc⟩
        · subst h; simp at hlt
        · exact ⟨b, off, ha, by rw [hb.cell (World.block_lt_of_cell? w _ (hc k hlt))]; exact hc k hlt⟩
      rw [ha]
      have hc2 := (ho.cellAt k (by omega)).trans (IV_get _ k (by rw [cpI_len bs k hk]; exact hlt))
      have hf := ho.frozenAt k
      have R1 := (ho.stored k (.int .i64 bs[k])).1
      rw [← IV_set, cpI_step bs k hlt] at R1
      have R2 : Below w.heap.size w (wr.setCell ⟨w.heap.size, k, none⟩ (.int .i64 bs[k])) := hb.setCell (Nat.le_refl _) _
      have H1 : Hid (World.ownsRow _ _ _ _ _ _ _) := R1
      clear ho hA hb R1
      go_wp2
      go_roundw
      case rel => exact ⟨k + 1, by omega, by go_num, H1.out, R2⟩
      case measure => simp [intOf]; omega
    · have hke : k = bs.length := by omega
      subst hke
      have H1 : OwnI wr w.heap.size (.slice (some ⟨w.heap.size, 0, none⟩) bs.length bs.length) bs := by unfold OwnI; simpa using ho
      clear ho
      go_wp2
      go_ret
      exact ⟨_, rfl, H1, hb⟩
set_option maxHeartbeats 1000000 in
set_option maxRecDepth 100000 in
theorem eqInts_same (va vb : Value) (xs : List Int) (w : World) (ha : RdI w va xs) (hb : RdI w vb xs) :
    Calls Try.prog 21 #[va, vb] w fun e w' => e = .returned (.bool true) ∧ ∃ n, w' = w.drewN n := by
  obtain ⟨aa, ca, hva, hla, hma, _⟩ := id ha
  obtain ⟨ab, cb, hvb, hlb, hmb, _⟩ := id hb
  subst hva
  subst hvb
  unfold maxLen at hma hmb
  have hne : ((xs.length : Int) != (xs.length : Int)) = false := by simp
  go_enter Try.func21, Try.ntmps21
  go_wp2
  go_loopw [5] (fun i wr => ∃ k : Nat, k ≤ xs.length ∧ i = .int .i64 k ∧ ∃ n, wr = w.drewN n) (fun i _ => xs.length - (intOf i).toNat)
  case atStart => exact ⟨0, Nat.zero_le _, rfl, 0, rfl⟩
  case round =>
    obtain ⟨k, hk, rfl, n, rfl⟩ := hrel
    by_cases hlt : k < xs.length
    · obtain ⟨b1, o1, rfl, c1⟩ := (ha.drewN n).at k hlt
      obtain ⟨b2, o2, rfl, c2⟩ := (hb.drewN n).at k hlt
      generalize xs[k] = x at c1 c2
      have hd : (x != x) = false := by simp
      go_wp2_with fail
      refine wp_region_noPanic ?_
      refine wp_region_held_drew (S := fun w' => w'.cell? ⟨b1, o1 + k, none⟩ = some (.int .i64 x) ∧ w'.cell? ⟨b2, o2 + k, none⟩ = some (.int .i64 x)) (by kernel_rfl) ⟨c1, c2⟩ (fun hH => ?_)
      refine takeH (i := 0) (d := 17) (v := ?_) rfl rfl (by kernel_rfl) (by kernel_rfl) (by kernel_rfl) (fun _ _ _ h => h) (Or.inl ⟨by kernel_rfl, ?_⟩) hH ?_
      rotate_left 1
      · intro w hS; (try dsimp only [EntAt, Nat.zero_add] at hS); go_simp; (try with_reducible rfl)
      try simp only [Act.put, List.setIfInBounds_toArray, List.set_cons_zero, List.set_cons_succ]
      refine takeH (i := 1) (d := 18) (v := ?_) rfl rfl (by kernel_rfl) (by kernel_rfl) (by kernel_rfl) (fun _ _ _ h => h) (Or.inl ⟨by kernel_rfl, ?_⟩) hH ?_
      rotate_left 1
      · intro w hS; (try dsimp only [EntAt, Nat.zero_add] at hS); go_simp; (try with_reducible rfl)
      try simp only [Act.put, List.setIfInBounds_toArray, List.set_cons_zero, List.set_cons_succ]
      refine takeH (i := 2) (d := 19) (v := ?_) rfl rfl (by kernel_rfl) (by kernel_rfl) (by kernel_rfl) (fun _ _ _ h => h) (Or.inl ⟨by kernel_rfl, ?_⟩) hH ?_
      rotate_left 1
      · intro w hS; (try dsimp only [EntAt, Nat.zero_add] at hS); go_simp; (try with_reducible rfl)
      try simp only [Act.put, List.setIfInBounds_toArray, List.set_cons_zero, List.set_cons_succ]
      refine takeH (i := 3) (d := 20) (v := ?_) rfl rfl (by kernel_rfl) (by kernel_rfl) (by kernel_rfl) (fun _ _ _ h => h) (Or.inl ⟨by kernel_rfl, ?_⟩) hH ?_
      rotate_left 1
      · intro w hS; (try dsimp only [EntAt, Nat.zero_add] at hS); go_simp; (try with_reducible rfl)
      try simp only [Act.put, List.setIfInBounds_toArray, List.set_cons_zero, List.set_cons_succ]
      refine takeH (i := 4) (d := 21) (v := ?_) rfl rfl (by kernel_rfl) (by kernel_rfl) (by kernel_rfl) (fun _ _ _ h => h) (Or.inl ⟨by kernel_rfl, ?_⟩) hH ?_
      rotate_left 1
      · intro w hS; (try dsimp only [EntAt, Nat.zero_add] at hS); go_simp; (try with_reducible rfl)
      try simp only [Act.put, List.setIfInBounds_toArray, List.set_cons_zero, List.set_cons_succ]
      refine takeH (i := 5) (d := 22) (v := ?_) rfl rfl (by kernel_rfl) (by kernel_rfl) (by kernel_rfl) (fun _ _ _ h => h) (Or.inl ⟨by kernel_rfl, ?_⟩) hH ?_
      rotate_left 1
      · intro w hS; (try dsimp only [EntAt, Nat.zero_add] at hS); go_simp; (try with_reducible rfl)
      try simp only [Act.put, List.setIfInBounds_toArray, List.set_cons_zero, List.set_cons_succ]
      refine takeH (i := 6) (d := 23) (v := ?_) rfl rfl (by kernel_rfl) (by kernel_rfl) (by kernel_rfl) (fun _ _ _ h => h) (Or.inl ⟨by kernel_rfl, ?_⟩) hH ?_
      rotate_left 1
      · intro w hS; (try dsimp only [EntAt, Nat.zero_add] at hS); go_simp; (try with_reducible rfl)
      try simp only [Act.put, List.setIfInBounds_toArray, List.set_cons_zero, List.set_cons_succ]
      refine takeH (i := 7) (d := 24) (v := ?_) rfl rfl (by kernel_rfl) (by kernel_rfl) (by kernel_rfl) (fun _ _ _ h => h) (Or.inl ⟨by kernel_rfl, ?_⟩) hH ?_
      rotate_left 1
      · intro w hS; (try dsimp only [EntAt, Nat.zero_add] at hS); go_simp; (try with_reducible rfl)
      try simp only [Act.put, List.setIfInBounds_toArray, List.set_cons_zero, List.set_cons_succ]
      refine takeH (i := 8) (d := 25) (v := ?_) rfl rfl (by kernel_rfl) (by kernel_rfl) (by kernel_rfl) (fun _ _ _ h => h) (Or.inl ⟨by kernel_rfl, ?_⟩) hH ?_
      rotate_left 1
      · intro w hS; (try dsimp only [EntAt, Nat.zero_add] at hS); go_simp; (try with_reducible rfl)
      try simp only [Act.put, List.setIfInBounds_toArray, List.set_cons_zero, List.set_cons_succ]
      refine wpAnyH_done (by kernel_rfl) ?_ _
      refine NoPanic.normal ?_
      go_wp2
      go_roundw
      case rel => exact ⟨k + 1, by omega, by go_num, n + 1, rfl⟩
      case measure => simp [intOf]; omega
    · have hlt2 : ¬ (k : Int) < (xs.length : Int) := by omega
      go_wp2
      go_ret
      exact ⟨rfl, n, rfl⟩
/-- The marks that are laid from number k on. -/
def imarks (k n : Nat) : List Int := (List.range n).map fun i => ((k + i : Nat) : Int)
theorem imarks_length (k n : Nat) : (imarks k n).length = n := by simp [imarks]
theorem imarks_succ (k n : Nat) : imarks k (n + 1) = imarks k n ++ [((k + n : Nat) : Int)] := by simp [imarks, List.range_succ]
theorem imarks_get (k n i : Nat) (h : i < (imarks k n).length) : (imarks k n)[i] = ((k + i : Nat) : Int) := by simp [imarks]
theorem imark_step (k i : Nat) (bs : List Int) (h : i < bs.length) : (imarks k i ++ bs.drop i).set i ((k + i : Nat) : Int) = imarks k (i + 1) ++ bs.drop (i + 1) := by
  have hl := imarks_length k i
  rw [List.set_append_right _ _ (by omega), hl, Nat.sub_self, List.drop_eq_getElem_cons h, List.set_cons_zero, imarks_succ, List.append_assoc, List.singleton_append]
end Go.Proofs.Ytjnhhdnfncfedaa
namespace Go.Proofs.Ytjnhhdnfncfedaa
open Go.RowKit
set_option maxHeartbeats 400000 in
set_option maxRecDepth 100000 in
theorem eqTexts_same (va vb : Value) (bs : List ByteArray) (w : World) (ha : RdS w va bs) (hb : RdS w vb bs) :
    Calls Try.prog 53 #[va, vb] w fun e w' => e = .returned (.bool true) ∧ ∃ q, w' = w.drewN q := by
  obtain ⟨aa, ca, rfl, hla, hma, hA⟩ := ha
  obtain ⟨ab, cb, rfl, hlb, hmb, hB⟩ := hb
  unfold maxLen at hma hmb
  have hne : ((bs.length : Int) != (bs.length : Int)) = false := by simp
  rcases hA with rfl | ⟨ba, offa, rfl, hA⟩
  · go_enter Try.func53, Try.ntmps53
    go_wp2
    refine wp_loop_rounds 1 ?_
    rw [rounds_succ]
    go_wp2
    go_ret
    exact ⟨rfl, 0, rfl⟩
  · rcases hB with rfl | ⟨bb, offb, rfl, hB⟩
    · go_enter Try.func53, Try.ntmps53
      go_wp2
      refine wp_loop_rounds 1 ?_
      rw [rounds_succ]
      go_wp2
      go_ret
      exact ⟨rfl, 0, rfl⟩
    · go_enter Try.func53, Try.ntmps53
      go_wp2
      go_loopw [5] (fun i wr => ∃ k : Nat, k ≤ bs.length ∧ i = .int .i64 k ∧ ∃ q, wr = w.drewN q) (fun i _ => bs.length - (intOf i).toNat)
      case atStart => exact ⟨0, Nat.zero_le _, rfl, 0, rfl⟩
      case round =>
        obtain ⟨k, hk, rfl, q, rfl⟩ := hrel
        by_cases hlt : k < bs.length
        · have h1 := hA k hlt
          have h2 := hB k hlt
          clear hA hB
          go_wp2
          go_quiet (fail)
          go_wp2
          go_roundw
          case rel => exact ⟨k + 1, by omega, by go_num, _, rfl⟩
          case measure => simp [intOf]; omega
        · go_wp2
          go_ret
          exact ⟨rfl, q, rfl⟩

def smarks (k n : Nat) : List ByteArray := (List.range n).map fun i => mk (k + i)
theorem smarks_length (k n : Nat) : (smarks k n).length = n := by simp [smarks]
theorem smarks_succ (k n : Nat) : smarks k (n + 1) = smarks k n ++ [mk (k + n)] := by simp [smarks, List.range_succ]
theorem smarks_get (k n i : Nat) (h : i < (smarks k n).length) : (smarks k n)[i] = mk (k + i) := by simp [smarks]
theorem smark_step (k i : Nat) (bs : List ByteArray) (h : i < bs.length) : (smarks k i ++ bs.drop i).set i (mk (k + i)) = smarks k (i + 1) ++ bs.drop (i + 1) := by
  rw [smarks_succ, List.set_append_right _ _ (by rw [smarks_length]; omega), smarks_length, Nat.sub_self, List.drop_eq_getElem_cons h, List.set_cons_zero]
  simp
/-- What the marking leaves: nothing below the row's base has turned but for new blocks and the row itself. -/
theorem smark_frame {w wr w1 : World} {g : Nat} {u : Value} {j : Nat} (hg : w.grownBy wr (some g)) (hb : Below wr.heap.size wr w1) : w.grownBy (w1.setCell ⟨g, j, none⟩ u) (some g) :=
  ⟨hb.os.trans hg.os, hb.tape.trans hg.tape, hb.output.trans hg.output, by have := hg.size; have := hb.size; simp; omega, fun k hk hr => by
    rw [heap_setCell_other w1 ⟨g, j, none⟩ k u (fun e => hr (by simp [e])), hb.block k (by have := hg.size; omega)]
    exact hg.block k hk hr⟩
theorem grownBy_one (a : World) (row : Option Nat) : a.grownBy a row := ⟨rfl, rfl, rfl, Nat.le_refl _, fun _ _ _ => rfl⟩

end Go.Proofs.Ytjnhhdnfncfedaa
