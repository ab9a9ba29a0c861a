/- Plain facts on rows of numbers that a call owns or reads. Plain facts on the number with which some bytes begin. The contract of the model's ReadNumber over any slice of bytes that can be read. Plain facts on rows of bytes and on conversions between bytes and texts, over this program's own types; no function of the program is walked here. The contract of the model's ReadText over any slice of bytes that can be read. Plain facts: what is written as a number or a text is read as that, whatever stands behind it, no part of it is read as any, and what is read is what it is written as. -/
import Derived.Test.YtbefmbjlogkmbaaGreatG01
import Derived.Laws.IdiomStrings
import Derived.Laws.BytesArg
import Derived.Lib.ConvBytes
namespace Go.Proofs.YtbefmbjlogkmbaaGreat
set_option maxHeartbeats 16000000
set_option maxRecDepth 100000
open Go.RowKit
theorem Tryz.info2 : (Tryz.prog.info? 2).map (fun i => (i.zero, i.size, i.bytes)) = some (some (.int .i64 0), 1, 8) := by kernel_rfl
def IV (ns : List Int) : List Value := ns.map (Value.int .i64)
theorem IV_length (ns : List Int) : (IV ns).length = ns.length := by simp [IV]
theorem IV_append (a b : List Int) : IV (a ++ b) = IV a ++ IV b := by simp [IV]
theorem IV_get (ns : List Int) (i : Nat) (h : i < ns.length) : (IV ns)[i]? = some (.int .i64 ns[i]) := by simp [IV, h]
theorem IV_set (ns : List Int) (i : Nat) (n : Int) : IV (ns.set i n) = (IV ns).set i (.int .i64 n) := by simp [IV, List.map_set]
theorem IV_oneCell (ns : List Int) : ∀ u ∈ IV ns, u.oneCell' = true := by
  intro u hu
  obtain ⟨_, _, rfl⟩ := List.mem_map.1 hu
  rfl
def OwnI (w : World) (base : Nat) (v : Value) (ns : List Int) : Prop := w.ownsRow base 2 1 v ns.length (IV ns)
def RdI (w : World) (v : Value) (ns : List Int) : Prop :=
  ∃ a cap, v = .slice a ns.length cap ∧ ns.length ≤ cap ∧ cap ≤ maxLen ∧ (a = none → cap = 0) ∧
    (ns = [] ∨ ∃ b off, a = some ⟨b, off, none⟩ ∧ ∀ i (h : i < ns.length), w.cell? ⟨b, off + i, none⟩ = some (.int .i64 ns[i]))
theorem OwnI.rd {w : World} {base : Nat} {v : Value} {ns : List Int} (h : OwnI w base v ns) : RdI w v ns := by
  have h' := h
  rcases h.2 with ⟨rfl, h0⟩ | ⟨g, cap, cur, rfl, hb, hg, hn, hc, hs, ht⟩
  · have : ns = [] := List.length_eq_zero_iff.1 h0
    subst this
    exact ⟨none, 0, rfl, Nat.le_refl _, Nat.zero_le _, fun _ => rfl, .inl rfl⟩
  · refine ⟨some ⟨g, 0, none⟩, cap, rfl, hn, hc, (fun h => by cases h), .inr ⟨g, 0, rfl, fun i hi => ?_⟩⟩
    have := h'.cellAt i (by omega)
    rw [IV_get ns i hi] at this
    simpa using this
theorem OwnI.below {w w' : World} {base : Nat} {v : Value} {ns : List Int} (h : OwnI w base v ns) (hb : Below w.heap.size w w') : OwnI w' base v ns := own_below h hb
theorem OwnI.drewN {w : World} {base : Nat} {v : Value} {ns : List Int} (h : OwnI w base v ns) (q : Nat) : OwnI (w.drewN q) base v ns := h
theorem OwnI.mono {w : World} {base base' : Nat} {v : Value} {ns : List Int} (h : OwnI w base v ns) (hb : base' ≤ base) : OwnI w base' v ns := by
  refine ⟨h.1, ?_⟩
  rcases h.2 with h2 | ⟨g, cap, cur, hv, hg, r⟩
  · exact .inl h2
  · exact .inr ⟨g, cap, cur, hv, Nat.le_trans hb hg, r⟩
theorem RdI.below {w w' : World} {v : Value} {ns : List Int} (h : RdI w v ns) (hb : Below w.heap.size w w') : RdI w' v ns := by
  obtain ⟨a, cap, hv, h1, h2, h0, h3⟩ := h
  refine ⟨a, cap, hv, h1, h2, h0, ?_⟩
  rcases h3 with h3 | ⟨b, off, ha, hc⟩
  · exact .inl h3
  · exact .inr ⟨b, off, ha, fun i hi => by rw [hb.cell (World.block_lt_of_cell? w _ (hc i hi))]; exact hc i hi⟩
theorem RdI.drewN {w : World} {v : Value} {ns : List Int} (h : RdI w v ns) (q : Nat) : RdI (w.drewN q) v ns := h
theorem rdI_nil (w : World) : RdI w (.slice none 0 0) [] := ⟨none, 0, rfl, Nat.le_refl _, Nat.zero_le _, fun _ => rfl, .inl rfl⟩
theorem ownI_none (w : World) : OwnI (w.alloc (.cells #[] 2)) w.heap.size (.slice (some ⟨w.heap.size, 0, none⟩) 0 0) [] := World.ownsRow_lit w #[] 0 (Nat.le_refl _) (Nat.zero_le _) rfl
theorem ownI_one (w : World) (n : Int) : OwnI (w.alloc (.cells #[.int .i64 n] 2)) w.heap.size (.slice (some ⟨w.heap.size, 0, none⟩) 1 1) [n] := World.ownsRow_lit w #[.int .i64 n] 1 (Nat.le_refl _) (by unfold maxLen; omega) rfl
theorem ownI_lt {w : World} {B : Nat} {v : Value} {ns : List Int} (h : OwnI w B v ns) : ∀ k, v.ownBlock = some k → k < w.heap.size := fun k hk => (World.ownsRow.lt h k hk).2
theorem ownI_more {w1 : World} {B : Nat} {v' : Value} {ys zs : List Int} (h : w1.ownsRow B 2 1 v' (ys.length + zs.length) (IV ys ++ IV zs)) : OwnI w1 B v' (ys ++ zs) := by
  unfold OwnI
  rw [IV_append, List.length_append]
  exact h
theorem ownI_some {w : World} {B : Nat} {v : Value} {ns : List Int} (h : OwnI w B v ns) (hn : ns ≠ []) : ∃ g cap, v = .slice (some ⟨g, 0, none⟩) ns.length cap := by
  rcases h.2 with ⟨_, h0⟩ | ⟨g, cap, cur, hv, _⟩
  · exact absurd (List.length_eq_zero_iff.1 h0) hn
  · exact ⟨g, cap, hv⟩
theorem RdI.at {w : World} {a : Option Addr} {n cap : Nat} {ns : List Int} (h : RdI w (.slice a n cap) ns) (i : Nat) (hi : i < ns.length) : ∃ b off, a = some ⟨b, off, none⟩ ∧ w.cell? ⟨b, off + i, none⟩ = some (.int .i64 ns[i]) := by
  obtain ⟨a', cap', hv, _, _, _, h3⟩ := h
  simp only [Value.slice.injEq] at hv
  obtain ⟨rfl, _, _⟩ := hv
  rcases h3 with rfl | ⟨b, off, ha, hc⟩
  · simp at hi
  · exact ⟨b, off, ha, hc i hi⟩
theorem rdI_take {w : World} {a : Option Addr} {n cap k : Nat} {ns : List Int} (h : RdI w (.slice a n cap) ns) (hk : k ≤ ns.length) : RdI w (.slice a k cap) (ns.take k) := by
  obtain ⟨a', cap', hv, h1, h2, h0, h3⟩ := h
  simp only [Value.slice.injEq] at hv
  obtain ⟨rfl, _, rfl⟩ := hv
  have hl : (ns.take k).length = k := by rw [List.length_take]; omega
  refine ⟨a, cap, by rw [hl], by omega, h2, h0, ?_⟩
  rcases h3 with rfl | ⟨b, off, ha, hc⟩
  · exact .inl (by simp)
  · exact .inr ⟨b, off, ha, fun i hi => by rw [List.getElem_take]; exact hc i (by omega)⟩
theorem rdI_cut {w : World} {b off n cap k : Nat} {ns : List Int} (h : RdI w (.slice (some ⟨b, off, none⟩) n cap) ns) (hk : k ≤ ns.length) : RdI w (.slice (if cap = k then some ⟨b, off, none⟩ else some ⟨b, off + k, none⟩) (ns.length - k) (cap - k)) (ns.drop k) := by
  obtain ⟨a', cap', hv, h1, h2, h0, h3⟩ := h
  simp only [Value.slice.injEq] at hv
  obtain ⟨rfl, _, rfl⟩ := hv
  have hl : (ns.drop k).length = ns.length - k := List.length_drop
  split
  · rename_i hck
    have hl0 : ns.length - k = 0 := by omega
    rw [hl0]
    exact ⟨_, _, by rw [hl, hl0], by rw [hl]; omega, by omega, (fun h => by cases h), .inl (List.drop_eq_nil_of_le (by omega))⟩
  · refine ⟨_, _, by rw [hl], by omega, by omega, (fun h => by cases h), ?_⟩
    rcases h3 with rfl | ⟨b', off', ha, hc⟩
    · exact .inl (by simp)
    · cases ha
      refine .inr ⟨b, off + k, rfl, fun i hi => ?_⟩
      have := hc (k + i) (by omega)
      rw [← Nat.add_assoc] at this
      rw [this, List.getElem_drop]
theorem run_append_ints (ty : TypeId) {w : World} {base : Nat} {v u : Value} {ys zs : List Int} (hown : OwnI w base v ys) (hr : RdI w u zs) (hl : ys.length + zs.length ≤ 1000000000) (hbase : base ≤ w.heap.size) :
    ∃ v' w', (Builtin.append_ #[24, 24] ty #[v, u]).run Tryz.prog w = .ok v' w' ∧ OwnI w' base v' (ys ++ zs) ∧ w.grownBy w' v.ownBlock := by
  obtain ⟨i0, hi, hz0, hz1, hz2⟩ := info_parts Tryz.info2
  obtain ⟨a, cap, rfl, h1, h2, h0, h3⟩ := hr
  have row : ∀ ad, (∀ j u, (IV zs)[j]? = some u → w.cell? (ad.add j) = some u) → ∃ v' w', (Builtin.append_ #[24, 24] ty #[v, .slice (some ad) zs.length cap]).run Tryz.prog w = .ok v' w' ∧ OwnI w' base v' (ys ++ zs) ∧ w.grownBy w' v.ownBlock := by
    intro ad hc
    obtain ⟨v', w', hrun, r1, r2, _⟩ := run_append_own (P := Tryz.prog) w base 24 ty 2 i0 _ 1 8 Tryz.underlying24 hi hz0 hz1 hz2 rfl (by decide) v ys.length (IV ys) hown ad zs.length cap (IV zs) (by rw [IV_length]; omega) hc (IV_oneCell zs) (by unfold maxLen; omega) (by omega) hbase
    exact ⟨v', w', hrun, ownI_more r1, r2⟩
  cases a with
  | some ad =>
    refine row ad ?_
    rcases h3 with rfl | ⟨b, off, ha, hc⟩
    · intro j u hj; simp [IV] at hj
    · cases ha
      intro j u hj
      have hjl : j < zs.length := by have := (List.getElem?_eq_some_iff.1 hj).1; rwa [IV_length] at this
      rw [IV_get zs j hjl] at hj
      cases hj
      rw [Addr.add_lit]
      exact hc j hjl
  | none =>
    have hc0 := h0 rfl
    subst hc0
    rcases h3 with rfl | ⟨b, off, ha, hc⟩
    · refine ⟨v, w, run_append_owned_none (P := Tryz.prog) w base 24 ty 2 i0 1 Tryz.underlying24 hi v ys.length (IV ys) hown, by simpa using hown, ⟨rfl, rfl, rfl, Nat.le_refl _, fun _ _ _ => rfl⟩⟩
    · cases ha
theorem wpList_append_ints {w : World} {ops : Array Oper} {rest : List Oper} {o : Oper} {a : Act} {Q : Exit → Act → World → Prop} (hgd : o.guard = none) (s x : Operand)
    (ho : o.op = .call { callee := .builtin .append, args := #[s, x], argTypes := #[24, 24] }) (base : Nat) (v u : Value) (ys zs : List Int) (hs : a.eval s = v) (hx : a.eval x = u) (hown : OwnI w base v ys) (hr : RdI w u zs) (hl : ys.length + zs.length ≤ 1000000000) (hbase : base ≤ w.heap.size)
    (h : ∀ v' w', OwnI w' base v' (ys ++ zs) → w.grownBy w' v.ownBlock → wpList Tryz.prog ops Q rest (a.put o.dst v') w') : wpList Tryz.prog ops Q (o :: rest) a w := by
  refine wpList_plain hgd fun K hK => ?_
  obtain ⟨v', w', hrun, r1, r2⟩ := run_append_ints o.type hown hr hl hbase
  unfold Oper.wp
  simp [execOp, ho, resolve, invoke, builtin, hs, hx, hrun, Result.andThen]
  exact hK _ _ (h v' w' r1 r2)
theorem step_append_ints {w : World} {ops : Array Oper} {o : Oper} {a : Act} {K : Act → World → Prop} {Q : Exit → Act → World → Prop} {E : Prop} (hgd : o.guard = none) (d : Nat) (hd : o.dst = some d) (s x : Operand)
    (ho : o.op = .call { callee := .builtin .append, args := #[s, x], argTypes := #[24, 24] }) (base : Nat) (v u : Value) (ys zs : List Int) (hs : a.eval s = v) (hx : a.eval x = u) (hown : OwnI w base v ys) (hr : RdI w u zs) (hl : ys.length + zs.length ≤ 1000000000) (hbase : base ≤ w.heap.size)
    (h : ∀ v' w', OwnI w' base v' (ys ++ zs) → w.grownBy w' v.ownBlock → K (a.put (some d) v') w') :
    if Region.wanted o (yielded ops a.tmps) = true then Oper.wp Tryz.prog o a w K Q else E := by
  have hw : Region.wanted o (yielded ops a.tmps) = true := by simp [Region.wanted, hgd]
  rw [if_pos hw]
  obtain ⟨v', w', hrun, r1, r2⟩ := run_append_ints o.type hown hr hl hbase
  unfold Oper.wp
  simp [execOp, ho, resolve, invoke, builtin, hs, hx, hrun, Result.andThen]
  have h' := h v' w' r1 r2
  rw [← hd] at h'
  exact h'
open Go.RowKit
def rdF : Nat → Nat → Nat → Nat → List UInt8 → Nat × Nat
  | 0, _, _, _, _ => (0, 0)
  | _ + 1, _, _, _, [] => (0, 0)
  | f + 1, i, n, p, b :: r => if b.toNat < 128 then (if 1099511627776 < n + b.toNat % 128 * p ∨ 0 < i ∧ b.toNat = 0 then (0, 0) else (n + b.toNat % 128 * p, i + 1)) else rdF f (i + 1) (n + b.toNat % 128 * p) (p * 128) r
def rdNum (bs : List UInt8) : Nat × Nat := rdF 6 0 0 1 bs
theorem rdF_end (f i n p : Nat) (bs : List UInt8) (k : Nat) (h : bs.length ≤ k) : rdF f i n p (bs.drop k) = (0, 0) := by
  rw [List.drop_eq_nil_of_le h]; cases f <;> rfl
theorem rdF_more (f i n p k b : Nat) (bs : List UInt8) (h : k < bs.length) (hb : b = bs[k].toNat) (h1 : 128 ≤ b) : rdF (f + 1) i n p (bs.drop k) = rdF f (i + 1) (n + b % 128 * p) (p * 128) (bs.drop (k + 1)) := by
  subst hb
  rw [List.drop_eq_getElem_cons h, rdF, if_neg (by omega)]
theorem rdF_no (f i n p k b : Nat) (bs : List UInt8) (h : k < bs.length) (hb : b = bs[k].toNat) (h1 : b < 128) (h2 : 1099511627776 < n + b % 128 * p ∨ 0 < i ∧ b = 0) : rdF (f + 1) i n p (bs.drop k) = (0, 0) := by
  subst hb
  rw [List.drop_eq_getElem_cons h, rdF, if_pos h1, if_pos h2]
theorem rdF_yes (f i n p k b : Nat) (bs : List UInt8) (h : k < bs.length) (hb : b = bs[k].toNat) (h1 : b < 128) (h2 : ¬ (1099511627776 < n + b % 128 * p ∨ 0 < i ∧ b = 0)) : rdF (f + 1) i n p (bs.drop k) = (n + b % 128 * p, i + 1) := by
  subst hb
  rw [List.drop_eq_getElem_cons h, rdF, if_pos h1, if_neg h2]
theorem rdF_len (f : Nat) : ∀ (i n p : Nat) (bs : List UInt8), (rdF f i n p bs).2 ≤ i + bs.length ∧ (rdF f i n p bs).1 ≤ 1099511627776 ∧ (rdF f i n p bs).2 ≤ i + f := by
  induction f with
  | zero => intro i n p bs; simp [rdF]
  | succ f ih =>
    intro i n p bs
    cases bs with
    | nil => simp [rdF]
    | cons b r =>
      rw [rdF]
      split
      · split
        · simp
        · simp only [List.length_cons]; omega
      · have := ih (i + 1) (n + b.toNat % 128 * p) (p * 128) r
        simp only [List.length_cons]; omega
theorem rdNum_len (bs : List UInt8) : (rdNum bs).2 ≤ bs.length ∧ (rdNum bs).1 ≤ 1099511627776 ∧ (rdNum bs).2 ≤ 6 := by have := rdF_len 6 0 0 1 bs; unfold rdNum; omega
theorem mul_le (b p : Nat) : b % 128 * p ≤ 127 * p := Nat.mul_le_mul_right p (by omega)
open Go.RowKit
theorem specReadNumber_any (v : Value) (bs : List UInt8) (w : World) (hr : Rd w v bs) :
    Calls Tryz.prog 154 #[v] w fun e w' => e = .returned (.tuple #[.int .i64 ((rdNum bs).1 : Int), .int .i64 ((rdNum bs).2 : Int)]) ∧ w' = w := by
  obtain ⟨R, hR⟩ : ∃ R, R = rdNum bs := ⟨_, rfl⟩
  rw [← hR]
  obtain ⟨a, cap, rfl, hl, hm, hA⟩ := hr
  unfold maxLen at hm
  go_enter Tryz.func154, Tryz.ntmps154
  go_wp2
  go_loop [4, 5, 6] (fun n p i => ∃ k m q : Nat, k ≤ 6 ∧ k ≤ bs.length ∧ i = .int .i64 k ∧ n = .int .i64 m ∧ p = .int .i64 q ∧ m < q ∧ q ≤ 4398046511104 ∧ (k < 6 → q ≤ 34359738368) ∧ Hid (q = 128 ^ k ∧ R = rdF (6 - k) k m q (bs.drop k))) (fun _ _ i => 6 - (intOf i).toNat)
  case atStart => exact ⟨0, 0, 1, by omega, by omega, rfl, rfl, rfl, by omega, by omega, by omega, rfl, hR⟩
  case round =>
    obtain ⟨k, m, q, hk6, hk, rfl, rfl, rfl, hmq, hq, hq6, HR⟩ := hrel
    by_cases hlt : k < bs.length
    · by_cases h6 : k < 6
      · obtain ⟨b0, off, ha, hc⟩ : ∃ b0 off, a = some ⟨b0, off, none⟩ ∧ w.cell? ⟨b0, off + k, none⟩ = some (.int .u8 (bs[k].toNat : Int)) := by
          rcases hA with h | ⟨b, off, ha, hc⟩
          · subst h; simp at hlt
          · exact ⟨b, off, ha, hc k hlt⟩
        rw [ha]
        obtain ⟨b, hb⟩ : ∃ b, b = bs[k].toNat := ⟨_, rfl⟩
        rw [← hb] at hc
        have hb8 : b < 256 := by rw [hb]; exact UInt8.toNat_lt _
        have Hb : Hid (b = bs[k].toNat) := hb
        have hml := mul_le b q
        have hq7 := hq6 h6
        obtain ⟨d, hd⟩ : ∃ d, d = b % 128 * q := ⟨_, rfl⟩
        have Hd : Hid (d = b % 128 * q) := hd
        have hx : (b : Int) % 128 * (q : Int) = (d : Int) := by rw [hd, Int.natCast_mul, Int.natCast_emod]; rfl
        rw [← hd] at hml
        clear hA hR ha hq6 hd hb
        by_cases hb7 : b < 128
        · by_cases h40 : 1099511627776 < m + d
          · have hfin : R = (0, 0) := by
              have h := HR.out.2; rw [show 6 - k = (5 - k) + 1 by omega] at h
              rw [h, rdF_no _ _ _ _ _ b bs hlt Hb.out hb7 (by rw [← Hd.out]; exact .inl h40)]
            have HF : Hid (R = (0, 0)) := hfin
            clear hfin
            go_wp2
            go_ret2
            exact ⟨by rw [HF.out]; rfl, rfl⟩
          · by_cases hk0 : 0 < k
            · by_cases hb0 : b = 0
              · have hfin : R = (0, 0) := by
                  have h := HR.out.2; rw [show 6 - k = (5 - k) + 1 by omega] at h
                  rw [h, rdF_no _ _ _ _ _ b bs hlt Hb.out hb7 (.inr ⟨hk0, hb0⟩)]
                have HF : Hid (R = (0, 0)) := hfin
                have hbz : ((b : Int) == 0) = true := by simp; omega
                clear hfin hb0
                go_wp2
                go_ret2
                exact ⟨by rw [HF.out]; rfl, rfl⟩
              · have hfin : R = (m + d, k + 1) := by
                  have h := HR.out.2; rw [show 6 - k = (5 - k) + 1 by omega] at h
                  rw [h, rdF_yes _ _ _ _ _ b bs hlt Hb.out hb7 (by rw [← Hd.out]; omega), ← Hd.out]
                have HF : Hid (R = (m + d, k + 1)) := hfin
                have hbz : ((b : Int) == 0) = false := by simp; omega
                clear hfin hb0
                go_wp2
                go_ret2
                exact ⟨by rw [HF.out]; rfl, rfl⟩
            · have hfin : R = (m + d, k + 1) := by
                have h := HR.out.2; rw [show 6 - k = (5 - k) + 1 by omega] at h
                rw [h, rdF_yes _ _ _ _ _ b bs hlt Hb.out hb7 (by rw [← Hd.out]; omega), ← Hd.out]
              have HF : Hid (R = (m + d, k + 1)) := hfin
              clear hfin
              go_wp2
              go_ret2
              exact ⟨by rw [HF.out]; rfl, rfl⟩
        · have HN : Hid (q * 128 = 128 ^ (k + 1) ∧ R = rdF (6 - (k + 1)) (k + 1) (m + d) (q * 128) (bs.drop (k + 1))) := by
            refine ⟨by rw [HR.out.1, Nat.pow_succ], ?_⟩
            have h := HR.out.2; rw [show 6 - k = (6 - (k + 1)) + 1 by omega] at h
            rw [h, rdF_more _ _ _ _ _ b bs hlt Hb.out (by omega), ← Hd.out]
          have hq5 : k + 1 < 6 → q ≤ 268435456 := fun hk5 => by
            have h1 := HR.out.1
            have h2 : (128 : Nat) ^ k ≤ 128 ^ 4 := Nat.pow_le_pow_right (by omega) (by omega)
            omega
          have HQ : Hid (k + 1 < 6 → q ≤ 268435456) := hq5
          clear hq5
          go_wp2
          go_round
          case rel => exact ⟨k + 1, m + d, q * 128, by omega, by omega, by go_num, by go_num, by go_num, by omega, by omega, fun h => by have := HQ.out h; omega, HN⟩
          case measure => simp [intOf]; omega
      · have hfin : R = (0, 0) := by
          have h := HR.out.2; rw [show 6 - k = 0 by omega] at h
          rw [h]; rfl
        have HF : Hid (R = (0, 0)) := hfin
        clear hfin hR
        go_wp2
        go_ret2
        exact ⟨by rw [HF.out]; rfl, rfl⟩
    · have hfin : R = (0, 0) := by rw [HR.out.2, rdF_end _ _ _ _ _ _ (by omega)]
      have HF : Hid (R = (0, 0)) := hfin
      clear hfin hR
      go_wp2
      go_ret2
      exact ⟨by rw [HF.out]; rfl, rfl⟩
open Go.RowKit
theorem Tryz.info5 : (Tryz.prog.info? 5).map (fun i => (i.zero, i.size, i.bytes)) = some (some (.int .u8 0), 1, 1) := by kernel_rfl
theorem own_none (w : World) : Own (w.alloc (.cells #[] 5)) w.heap.size (.slice (some ⟨w.heap.size, 0, none⟩) 0 0) [] := World.ownsRow_lit w #[] 0 (Nat.le_refl _) (Nat.zero_le _) rfl
theorem size_length (s : ByteArray) : s.data.toList.length = s.size := by rw [Array.length_toList]; rfl
theorem conv_at (w : World) (b o n c : Nat) (l : List UInt8) (hl : l.length = n) (hc : ∀ j (hj : j < l.length), w.cell? ⟨b, o + j, none⟩ = some (.int .u8 (l[j].toNat : Int))) :
    (convert 102 9 (.slice (some ⟨b, o, none⟩) n c)).run Tryz.prog w = .ok (.string ⟨l.toArray⟩) w := by
  subst hl
  exact run_convert_bytes_back w 102 9 5 ⟨b, o, none⟩ c l Tryz.underlying102 Tryz.underlying5 Tryz.underlying9 (fun j hj => by rw [Addr.add_lit]; exact hc j hj)
theorem conv_own {w : World} {B : Nat} {v : Value} {bs : List UInt8} (h : Own w B v bs) : (convert 102 9 v).run Tryz.prog w = .ok (.string ⟨bs.toArray⟩) w := by
  rcases h.2 with ⟨rfl, h0⟩ | ⟨g, cap, cur, rfl, _⟩
  · have : bs = [] := List.length_eq_zero_iff.1 h0
    subst this
    exact run_convert_bytes_nil w 102 5 Tryz.underlying102 Tryz.underlying5 0 0 9 Tryz.underlying9
  · refine conv_at w g 0 bs.length cap bs rfl fun j hj => ?_
    have := World.ownsRow.cellAt h j (by omega)
    rw [BV_get bs j hj] at this
    rw [Nat.zero_add]
    exact this
theorem dig_toNat (k : Nat) : ((UInt8.ofNat (48 + k % 10)).toNat : Int) = 48 + (k : Int) % 10 := by
  rw [UInt8.toNat_ofNat']; omega
theorem conv_one (w : World) (b : UInt8) (x : Int) (hx : (b.toNat : Int) = x) :
    (convert 102 9 (.slice (some ⟨w.heap.size, 0, none⟩) 1 1)).run Tryz.prog (w.alloc (.cells #[.int .u8 x] 5)) = .ok (.string ⟨#[b]⟩) (w.alloc (.cells #[.int .u8 x] 5)) := by
  refine conv_at _ w.heap.size 0 1 1 [b] rfl fun j hj => ?_
  have : j = 0 := by simpa using hj
  subst this
  simp [hx]
theorem conv_bytes (w : World) (s : ByteArray) : (convert 9 102 (.string s)).run Tryz.prog w = .ok (.slice (some ⟨w.heap.size, 0, none⟩) s.size (grownCap w s.size 0 5)) (Lib.bytesWorld w 5 s) :=
  Lib.run_convert_string_bytes w 9 102 5 s Tryz.underlying9 Tryz.underlying102 Tryz.underlying5
theorem bytes_rd (w : World) (s : ByteArray) (hs : s.size ≤ maxLen) : Rd (Lib.bytesWorld w 5 s) (.slice (some ⟨w.heap.size, 0, none⟩) s.size (grownCap w s.size 0 5)) s.data.toList := by
  have hl := size_length s
  refine ⟨_, _, by rw [hl], by rw [hl]; exact grownCap_ge w s.size 0 _, grownCap_le_maxLen w s.size 0 _ hs, .inr ⟨w.heap.size, 0, rfl, fun i hi => ?_⟩⟩
  rw [Nat.zero_add, Lib.bytesWorld_cell w _ s i (by omega)]
  simp [List.getD, List.getElem?_eq_getElem hi]
theorem bytes_below (w : World) (s : ByteArray) : Below w.heap.size w (Lib.bytesWorld w 5 s) :=
  ⟨rfl, rfl, rfl, by rw [Lib.bytesWorld_size]; omega, fun k hk => Lib.bytesWorld_at_old w _ s k hk⟩
theorem own_some {w : World} {B : Nat} {v : Value} {bs : List UInt8} (h : Own w B v bs) (hn : bs ≠ []) : ∃ g cap, v = .slice (some ⟨g, 0, none⟩) bs.length cap ∧ ∀ j u, (BV bs)[j]? = some u → w.cell? ((⟨g, 0, none⟩ : Addr).add j) = some u := by
  rcases h.2 with ⟨_, h0⟩ | ⟨g, cap, cur, hv, _⟩
  · exact absurd (List.length_eq_zero_iff.1 h0) hn
  · exact ⟨g, cap, hv, World.ownsRow.cells h (by rw [hv]; rfl)⟩
theorem BV_oneCell (bs : List UInt8) : ∀ u ∈ BV bs, u.oneCell' = true := by
  intro u hu
  obtain ⟨_, _, rfl⟩ := List.mem_map.1 hu
  rfl
theorem own_more {w1 : World} {B : Nat} {v' : Value} {ys zs : List UInt8} (h : w1.ownsRow B 5 1 v' (ys.length + zs.length) (BV ys ++ BV zs)) : Own w1 B v' (ys ++ zs) := by
  unfold Own
  rw [BV_append, List.length_append]
  exact h

open Go.RowKit
def rdText (bs : List UInt8) : List UInt8 × Nat :=
  if (rdNum bs).2 = 0 ∨ 3000 < (rdNum bs).1 ∨ bs.length < (rdNum bs).2 + (rdNum bs).1 then ([], 0) else ((bs.drop (rdNum bs).2).take (rdNum bs).1, (rdNum bs).2 + (rdNum bs).1)
theorem cut_len (bs : List UInt8) (k n : Nat) (h : k + n ≤ bs.length) : ((bs.drop k).take n).length = n := by rw [List.length_take, List.length_drop]; omega
theorem conv_cut (w : World) (b off k n c : Nat) (bs : List UInt8) (h : k + n ≤ bs.length) (hc : ∀ i (h : i < bs.length), w.cell? ⟨b, off + i, none⟩ = some (.int .u8 (bs[i].toNat : Int))) :
    (convert 102 9 (.slice (some ⟨b, off + k, none⟩) n c)).run Tryz.prog w = .ok (.string ⟨((bs.drop k).take n).toArray⟩) w :=
  conv_at w b (off + k) n c _ (cut_len bs k n h) fun j hj => by
    rw [cut_len bs k n h] at hj
    have := hc (k + j) (by omega)
    rw [← Nat.add_assoc] at this
    rw [this]
    simp
theorem conv_none (w : World) (b off n c : Nat) (h : n = 0) (l : List UInt8) (hl : l = []) : (convert 102 9 (.slice (some ⟨b, off, none⟩) n c)).run Tryz.prog w = .ok (.string ⟨l.toArray⟩) w := by
  subst h
  subst hl
  exact conv_at w b off 0 c [] rfl fun j hj => by simp at hj
theorem specReadText_any (v : Value) (bs : List UInt8) (w : World) (hr : Rd w v bs) :
    Calls Tryz.prog 155 #[v] w fun e w' => e = .returned (.tuple #[.string ⟨(rdText bs).1.toArray⟩, .int .i64 ((rdText bs).2 : Int)]) ∧ w' = w := by
  have hlen := rdNum_len bs
  obtain ⟨T, hT⟩ : ∃ T, T = rdText bs := ⟨_, rfl⟩
  rw [← hT]
  have HN := specReadNumber_any v bs w hr
  unfold rdText at hT
  obtain ⟨n, hn⟩ : ∃ n, n = (rdNum bs).1 := ⟨_, rfl⟩
  obtain ⟨k, hk⟩ : ∃ k, k = (rdNum bs).2 := ⟨_, rfl⟩
  rw [← hn, ← hk] at hlen HN hT
  clear hn hk
  have HT : Hid (T = if k = 0 ∨ 3000 < n ∨ bs.length < k + n then ([], 0) else ((bs.drop k).take n, k + n)) := hT
  have HC : Hid (Calls _ _ _ _ _) := HN
  clear HN hT
  obtain ⟨a, cap, hv, hl, hm, hA⟩ := hr
  unfold maxLen at hm
  subst hv
  by_cases h0 : k = 0
  · have HF : Hid (T = ([], 0)) := by rw [if_pos (.inl h0)] at HT; exact HT
    have hk0 : ((k : Int) == 0) = true := by simp; omega
    clear hA h0 HT
    go_enter Tryz.func155, Tryz.ntmps155
    go_wp2_with fail
    refine HC.out.mono ?_
    rintro e w1 ⟨rfl, rfl⟩
    go_wp2
    go_ret2
    exact ⟨by rw [HF.out]; rfl, rfl⟩
  have hk0 : ((k : Int) == 0) = false := by simp; omega
  by_cases h1 : 3000 < n
  · have HF : Hid (T = ([], 0)) := by rw [if_pos (.inr (.inl h1))] at HT; exact HT
    clear hA HT
    go_enter Tryz.func155, Tryz.ntmps155
    go_wp2_with fail
    refine HC.out.mono ?_
    rintro e w1 ⟨rfl, rfl⟩
    go_wp2
    go_ret2
    exact ⟨by rw [HF.out]; rfl, rfl⟩
  by_cases h2 : bs.length < k + n
  · have HF : Hid (T = ([], 0)) := by rw [if_pos (.inr (.inr h2))] at HT; exact HT
    clear hA HT
    go_enter Tryz.func155, Tryz.ntmps155
    go_wp2_with fail
    refine HC.out.mono ?_
    rintro e w1 ⟨rfl, rfl⟩
    go_wp2
    go_ret2
    exact ⟨by rw [HF.out]; rfl, rfl⟩
  have HF : Hid (T = ((bs.drop k).take n, k + n)) := by rw [if_neg (by omega)] at HT; exact HT
  have hz : bs ≠ [] := by intro h; subst h; simp at h2; omega
  rcases hA with h | ⟨b, off, rfl, hc⟩
  · exact absurd h hz
  generalize hl' : (bs.drop k).take n = l at HF
  have HL : Hid ((bs.drop k).take n = l) := hl'
  clear hl' hz HT
  by_cases hcap : cap = k
  · have hcv := conv_none w b off n 0 (by omega) l (by have h := cut_len bs k n (by omega); rw [HL.out] at h; exact List.length_eq_zero_iff.1 (by omega))
    clear hc
    subst hcap
    go_enter Tryz.func155, Tryz.ntmps155
    go_wp2_with fail
    refine HC.out.mono ?_
    rintro e w1 ⟨rfl, rfl⟩
    go_wp2
    go_ret2
    exact ⟨by rw [HF.out]; simp, rfl⟩
  · have hcv := conv_cut w b off k n (cap - k) bs (by omega) hc
    rw [HL.out] at hcv
    clear hc
    go_enter Tryz.func155, Tryz.ntmps155
    go_wp2_with fail
    refine HC.out.mono ?_
    rintro e w1 ⟨rfl, rfl⟩
    go_wp2
    go_ret2
    exact ⟨by rw [HF.out]; simp, rfl⟩
theorem enc_ne (n : Nat) : enc n ≠ [] := by
  by_cases h : n < 128
  · rw [enc_small n h]; simp
  · rw [enc_big n (by omega)]; simp
theorem rdText_len (bs : List UInt8) : (rdText bs).2 ≤ bs.length := by
  have := rdNum_len bs
  unfold rdText
  split
  · simp
  · simp only; omega
theorem byte_low (n : Nat) (h : n < 128) : (UInt8.ofNat n).toNat = n := by rw [UInt8.toNat_ofNat']; omega
theorem byte_high (n : Nat) : (UInt8.ofNat (n % 128 + 128)).toNat = n % 128 + 128 := by rw [UInt8.toNat_ofNat']; omega
theorem mul_split (n p : Nat) : n % 128 * p + n / 128 * (p * 128) = n * p := by
  have h : n % 128 + n / 128 * 128 = n := by omega
  have e : n / 128 * (p * 128) = n / 128 * 128 * p := by rw [Nat.mul_comm p 128, Nat.mul_assoc]
  rw [e, ← Nat.add_mul, h]
theorem rdF_cons (f i m p : Nat) (b : UInt8) (r : List UInt8) : rdF (f + 1) i m p (b :: r) = if b.toNat < 128 then (if 1099511627776 < m + b.toNat % 128 * p ∨ 0 < i ∧ b.toNat = 0 then (0, 0) else (m + b.toNat % 128 * p, i + 1)) else rdF f (i + 1) (m + b.toNat % 128 * p) (p * 128) r := rfl
theorem rdF_enc (f : Nat) : ∀ (i m p n : Nat) (r : List UInt8), n < 128 ^ (f + 1) → (0 < i → 0 < n) → m + n * p ≤ 1099511627776 → rdF (f + 1) i m p (enc n ++ r) = (m + n * p, i + (enc n).length) := by
  induction f with
  | zero =>
    intro i m p n r h hi hm
    have hn : n < 128 := by simpa using h
    rw [enc_small n hn, List.singleton_append, rdF_cons, byte_low n hn, if_pos hn, Nat.mod_eq_of_lt hn, if_neg (by omega)]
    rfl
  | succ f ih =>
    intro i m p n r h hi hm
    by_cases hn : n < 128
    · rw [enc_small n hn, List.singleton_append, rdF_cons, byte_low n hn, if_pos hn, Nat.mod_eq_of_lt hn, if_neg (by omega)]
      rfl
    · have hs := mul_split n p
      rw [enc_big n (by omega), List.cons_append, rdF_cons, byte_high, if_neg (by omega), show (n % 128 + 128) % 128 = n % 128 by omega]
      rw [ih (i + 1) (m + n % 128 * p) (p * 128) (n / 128) r (by rw [Nat.pow_succ] at h; omega) (by omega) (by omega), List.length_cons]
      have e1 : m + n % 128 * p + n / 128 * (p * 128) = m + n * p := by omega
      have e2 : i + 1 + (enc (n / 128)).length = i + ((enc (n / 128)).length + 1) := by omega
      rw [e1, e2]
theorem rdNum_enc (n : Nat) (r : List UInt8) (h : n ≤ 1099511627776) : rdNum (enc n ++ r) = (n, (enc n).length) := by
  have := rdF_enc 5 0 0 1 n r (by omega) (by omega) (by omega)
  unfold rdNum
  rw [this]
  simp
theorem enc_pos (n : Nat) : 0 < (enc n).length := List.length_pos_iff.2 (enc_ne n)
theorem rdText_enc (s : ByteArray) (r : List UInt8) (h : s.size ≤ 3000) : rdText ((enc s.size ++ s.data.toList) ++ r) = (s.data.toList, (enc s.size ++ s.data.toList).length) := by
  have hp := enc_pos s.size
  unfold rdText
  rw [List.append_assoc, rdNum_enc s.size _ (by omega)]
  simp only
  rw [if_neg (by simp only [List.length_append, size_length]; omega), List.drop_left, List.take_append_of_le_length (by rw [size_length]; omega), List.take_of_length_le (by rw [size_length]; omega), List.length_append, size_length]
theorem back (s : ByteArray) : (⟨s.data.toList.toArray⟩ : ByteArray) = s := by cases s; simp
theorem byte_of_toNat (b : UInt8) : UInt8.ofNat b.toNat = b := by simp
theorem rdF_back (f : Nat) : ∀ (i m p : Nat) (bs : List UInt8), (rdF f i m p bs).2 ≠ 0 → ∃ n j, rdF f i m p bs = (m + n * p, i + j) ∧ bs.take j = enc n ∧ (0 < i → 0 < n) ∧ j = (enc n).length := by
  induction f with
  | zero => intro i m p bs h; exact absurd rfl h
  | succ f ih =>
    intro i m p bs h
    cases bs with
    | nil => exact absurd rfl h
    | cons b r =>
      rw [rdF_cons] at h ⊢
      by_cases hb : b.toNat < 128
      · rw [if_pos hb] at h ⊢
        by_cases hc : 1099511627776 < m + b.toNat % 128 * p ∨ 0 < i ∧ b.toNat = 0
        · rw [if_pos hc] at h; exact absurd rfl h
        · rw [if_neg hc, Nat.mod_eq_of_lt hb]
          refine ⟨b.toNat, 1, rfl, ?_, by omega, ?_⟩
          · rw [enc_small _ hb, byte_of_toNat]; rfl
          · rw [enc_small _ hb]; rfl
      · rw [if_neg hb] at h ⊢
        obtain ⟨n, j, h1, h2, h3, h4⟩ := ih _ _ _ _ h
        have hn := h3 (by omega)
        have hb8 := UInt8.toNat_lt b
        have e1 : (b.toNat % 128 + 128 * n) % 128 = b.toNat % 128 := by omega
        have e2 : (b.toNat % 128 + 128 * n) / 128 = n := by omega
        have e3 : b.toNat % 128 + 128 = b.toNat := by omega
        have hE : enc (b.toNat % 128 + 128 * n) = b :: enc n := by rw [enc_big _ (by omega), e1, e2, e3, byte_of_toNat]
        have hs := mul_split (b.toNat % 128 + 128 * n) p
        rw [e1, e2] at hs
        refine ⟨b.toNat % 128 + 128 * n, j + 1, ?_, ?_, by omega, ?_⟩
        · rw [h1]
          have a1 : m + b.toNat % 128 * p + n * (p * 128) = m + (b.toNat % 128 + 128 * n) * p := by omega
          have a2 : i + 1 + j = i + (j + 1) := by omega
          rw [a1, a2]
        · rw [List.take_succ_cons, h2, hE]
        · rw [hE, List.length_cons, h4]
theorem rdNum_back (bs : List UInt8) (h : (rdNum bs).2 ≠ 0) : bs.take (rdNum bs).2 = enc (rdNum bs).1 ∧ (rdNum bs).2 = (enc (rdNum bs).1).length := by
  obtain ⟨n, j, h1, h2, _, h4⟩ := rdF_back 6 0 0 1 bs h
  have e : rdNum bs = (n, j) := by unfold rdNum; rw [h1]; simp
  rw [e]
  exact ⟨h2, h4⟩
theorem rdText_back (bs : List UInt8) (h : (rdText bs).2 ≠ 0) : (rdText bs).1.length ≤ 3000 ∧ bs.take (rdText bs).2 = enc (rdText bs).1.length ++ (rdText bs).1 ∧ (rdText bs).2 ≤ bs.length := by
  have hl := rdText_len bs
  unfold rdText at h hl ⊢
  by_cases hc : (rdNum bs).2 = 0 ∨ 3000 < (rdNum bs).1 ∨ bs.length < (rdNum bs).2 + (rdNum bs).1
  · rw [if_pos hc] at h; exact absurd rfl h
  · rw [if_neg hc] at hl ⊢
    simp only at hl ⊢
    have hb := rdNum_back bs (by omega)
    have hlen : ((bs.drop (rdNum bs).2).take (rdNum bs).1).length = (rdNum bs).1 := by rw [List.length_take, List.length_drop]; omega
    rw [hlen]
    refine ⟨by omega, ?_, hl⟩
    rw [List.take_add, hb.1]
end Go.Proofs.YtbefmbjlogkmbaaGreat
