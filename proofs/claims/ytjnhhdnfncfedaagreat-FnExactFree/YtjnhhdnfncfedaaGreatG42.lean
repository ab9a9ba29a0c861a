/- The contracts of slices.Index and slices.Delete at numbers. From a plain walk to one inside a round of a range over a function: no function of the program is walked here. The contract of the program's iterator over a tree's tables. -/
import Derived.Test.YtjnhhdnfncfedaaGreatTreMark
import Derived.Deep.RegionLaw
import Derived.Lib.SliceRun
import Derived.Test.YtjnhhdnfncfedaaGreatG00
import Derived.RangeFuncNested
import Derived.RangeFuncBound
import Derived.RangeFuncCalls
import Derived.RangeFuncLeaves
import Derived.RangeFuncBox
import Derived.Shelf.Abstract
import Derived.Shelf.RegionOpen
import Derived.OwnWalkIn
import Derived.TacticsInMore
import Derived.LoopNIn
import Derived.LoopIn
import Derived.Deep.RegionHeld3
import Derived.Test.YtjnhhdnfncfedaaGreatG26
namespace Go.Proofs.YtjnhhdnfncfedaaGreat
open Go.RowKit
/-- Where a number stands first. -/
def IdxPost (w : World) (bs : List Int) (x : Int) (e : Ending) (w' : World) : Prop :=
  w' = w ∧ ((∃ j : Nat, j < bs.length ∧ bs.getD j 0 = x ∧ e = .returned (.int .i64 (j : Int))) ∨ (x ∉ bs ∧ e = .returned (.int .i64 (-1))))
set_option maxHeartbeats 1000000 in
set_option maxRecDepth 100000 in
theorem indexI_any (v : Value) (bs : List Int) (x : Int) (w : World) (hr : RdI w v bs) :
    Calls Tryz.prog 49 #[v, .int .i64 x] w fun e w' => IdxPost w bs x e w' := by
  obtain ⟨a, cap, hv, hl, hm, -, hc⟩ := hr
  unfold maxLen at hm
  obtain ⟨nn, hnn⟩ : ∃ nn, nn = bs.length := ⟨_, rfl⟩
  rw [← hnn] at hv hl
  have HNN : Hid (nn = bs.length) := hnn
  have HC : Hid (bs = [] ∨ ∃ b off, a = some ⟨b, off, none⟩ ∧ ∀ i (h : i < bs.length), w.cell? ⟨b, off + i, none⟩ = some (.int .i64 bs[i])) := hc
  subst hv
  clear hnn hc
  go_enter Tryz.func49, Tryz.ntmps49
  go_wp2
  go_loopw [8] (fun i wr => ∃ k : Nat, k ≤ nn ∧ i = .int .i64 k ∧ wr = w ∧ Hid (∀ i, i < k → bs.getD i 0 ≠ x)) (fun i _ => nn - (intOf i).toNat)
  case atStart => exact ⟨0, Nat.zero_le _, rfl, rfl, fun i hi => by omega⟩
  case round =>
    obtain ⟨k, hk, rfl, rfl, HN⟩ := hrel
    by_cases hlt : k < nn
    · have hkc : k < cap := by omega
      obtain ⟨b, off, rfl, hck⟩ : ∃ b off, a = some ⟨b, off, none⟩ ∧ wr.cell? ⟨b, off + k, none⟩ = some (.int .i64 (bs.getD k 0)) := by
        have hkl : k < bs.length := by rw [← HNN.out]; exact hlt
        rcases HC.out with e | ⟨b, off, ha, hcc⟩
        · rw [e] at hkl; simp at hkl
        · exact ⟨b, off, ha, by rw [hcc k hkl]; simp [List.getD, List.getElem?_eq_getElem hkl]⟩
      by_cases hx : x = bs.getD k 0
      · have END : Hid (IdxPost wr bs x (.returned (.int .i64 (k : Int))) wr) := ⟨rfl, .inl ⟨k, by rw [← HNN.out]; exact hlt, hx.symm, rfl⟩⟩
        generalize bs.getD k 0 = y at hck hx
        subst hx
        clear HN HC
        go_wp2
        go_ret
        exact END.out
      · have HN2 : Hid (∀ i, i < k + 1 → bs.getD i 0 ≠ x) := fun i hi e => by
          by_cases hik : i = k
          · rw [hik] at e; exact hx e.symm
          · exact HN.out i (by omega) e
        generalize bs.getD k 0 = y at hck hx
        clear HN HC
        go_wp2
        go_roundw
        case rel => exact ⟨k + 1, by omega, by go_num, by simp, HN2⟩
        case measure => simp [intOf]; omega
    · have hke : k = nn := by omega
      have END : Hid (IdxPost wr bs x (.returned (.int .i64 (-1))) wr) := by
        refine ⟨rfl, .inr ⟨fun hm => ?_, rfl⟩⟩
        obtain ⟨i, hi, e⟩ := List.getElem_of_mem hm
        exact HN.out i (by rw [hke, HNN.out]; exact hi) (by simp [List.getD, List.getElem?_eq_getElem hi, e])
      clear HN HC
      go_wp2
      go_ret
      exact END.out
/-- Cells of a row are written one behind the other. -/
def setL (xs : List Value) : Nat → List Value → List Value
  | _, [] => xs
  | o, v :: r => setL (xs.set o v) (o + 1) r
theorem setL_eq : ∀ (vs : List Value) (o : Nat) (xs : List Value), o + vs.length ≤ xs.length → setL xs o vs = xs.take o ++ vs ++ xs.drop (o + vs.length)
  | [], o, xs, _ => by simp [setL]
  | v :: r, o, xs, h => by
    have h' : o + (r.length + 1) ≤ xs.length := by simpa using h
    have ho : o < xs.length := by omega
    unfold setL
    rw [setL_eq r (o + 1) (xs.set o v) (by rw [List.length_set]; omega)]
    have e1 : (xs.set o v).take (o + 1) = xs.take o ++ [v] := by
      rw [List.take_succ_eq_append_getElem (by rw [List.length_set]; exact ho), List.take_set_of_le (Nat.le_refl _)]
      simp
    have e2 : (xs.set o v).drop (o + 1 + r.length) = xs.drop (o + (r.length + 1)) := by
      rw [List.drop_set_of_lt (by omega), show o + 1 + r.length = o + (r.length + 1) by omega]
    rw [e1, e2]
    simp
theorem row_setL {B e g n cap : Nat} : ∀ (vs : List Value) (o : Nat) (w : World) (xs : List Value), w.ownsRow B e 1 (.slice (some ⟨g, 0, none⟩) n cap) n xs → (w.setCells g o vs).ownsRow B e 1 (.slice (some ⟨g, 0, none⟩) n cap) n (setL xs o vs) ∧ w.grownBy (w.setCells g o vs) (some g)
  | [], _, w, _, h => ⟨h, ⟨rfl, rfl, rfl, Nat.le_refl _, fun _ _ _ => rfl⟩⟩
  | v :: r, o, w, xs, h => by
    have h1 := h.stored o v
    have h2 := row_setL r (o + 1) _ _ h1.1
    refine ⟨h2.1, ?_⟩
    obtain ⟨a1, a2, a3, a4, a5⟩ := h1.2
    obtain ⟨b1, b2, b3, b4, b5⟩ := h2.2
    exact ⟨b1.trans a1, b2.trans a2, b3.trans a3, Nat.le_trans a4 b4, fun k hk hn => (b5 k (Nat.lt_of_lt_of_le hk a4) hn).trans (a5 k hk hn)⟩
theorem row_wide {w : World} {B e g n cap : Nat} {xs : List Value} (h : w.ownsRow B e 1 (.slice (some ⟨g, 0, none⟩) n cap) n xs) : ∃ ys, w.ownsRow B e 1 (.slice (some ⟨g, 0, none⟩) cap cap) cap ys ∧ ys.take n = xs ∧ ys.length = cap := by
  rcases h.2 with ⟨h', _⟩ | ⟨g', cap', cur, h', hb, hg, hnc, hcm, hcs, htake⟩
  · simp at h'
  · simp only [Value.slice.injEq, Option.some.injEq, Addr.mk.injEq, and_true, true_and] at h'
    obtain ⟨rfl, rfl⟩ := h'
    have hl : cur.toList.length = cap := by rw [Array.length_toList, hcs, Nat.mul_one]
    refine ⟨cur.toList, ⟨by rw [hl, Nat.mul_one], .inr ⟨g, cap, cur, rfl, hb, hg, Nat.le_refl _, hcm, hcs, ?_⟩⟩, by rw [← htake, Nat.mul_one], hl⟩
    rw [List.take_of_length_le (by rw [hl, Nat.mul_one]; exact Nat.le_refl _)]
theorem row_cut {w : World} {B e g N m cap : Nat} {xs : List Value} (h : w.ownsRow B e 1 (.slice (some ⟨g, 0, none⟩) N cap) N xs) (hm : m ≤ N) : w.ownsRow B e 1 (.slice (some ⟨g, 0, none⟩) m cap) m (xs.take m) := by
  rcases h.2 with ⟨h', _⟩ | ⟨g', cap', cur, h', hb, hg, hnc, hcm, hcs, htake⟩
  · simp at h'
  · simp only [Value.slice.injEq, Option.some.injEq, Addr.mk.injEq, and_true, true_and] at h'
    obtain ⟨rfl, rfl⟩ := h'
    have hl := h.1
    refine ⟨by rw [List.length_take, hl]; omega, .inr ⟨g, cap, cur, rfl, hb, hg, by omega, hcm, hcs, ?_⟩⟩
    rw [← htake, List.take_take]
    congr 1
    omega
theorem del_list {bs : List Int} {i : Nat} (hi : i < bs.length) {ys : List Value} {cap : Nat} (hl : ys.length = cap) (hn : bs.length ≤ cap) (ht : ys.take bs.length = IV bs) (z : Value) :
    ((setL (setL ys i (IV (bs.drop (i + 1)))) (bs.length - 1) [z])).take (bs.length - 1) = IV (bs.eraseIdx i) := by
  have hd : (IV (bs.drop (i + 1))).length = bs.length - (i + 1) := by rw [IV_length, List.length_drop]
  have e1 : setL ys i (IV (bs.drop (i + 1))) = ys.take i ++ IV (bs.drop (i + 1)) ++ ys.drop (i + (IV (bs.drop (i + 1))).length) := setL_eq _ _ _ (by rw [hd, hl]; omega)
  have e2 : ys.take i = IV (bs.take i) := by
    have : (ys.take bs.length).take i = ys.take i := by rw [List.take_take]; congr 1; omega
    rw [← this, ht]
    simp [IV]
  have hti : (ys.take i).length = i := by rw [List.length_take, hl]; omega
  show ((setL ys i (IV (bs.drop (i + 1)))).set (bs.length - 1) z).take (bs.length - 1) = _
  rw [List.take_set_of_le (Nat.le_refl _), e1, List.take_append_of_le_length (by rw [List.length_append, hti, hd]; omega), List.take_of_length_le (by rw [List.length_append, hti, hd]; omega), e2, ← IV_append, List.eraseIdx_eq_take_drop_succ]
/-- What slices.Delete leaves: one number less in the same row. -/
def DelPost (w : World) (B : Nat) (v : Value) (bs : List Int) (i : Nat) (e : Ending) (w' : World) : Prop :=
  ∃ u, e = .returned u ∧ OwnI w' B u (bs.eraseIdx i) ∧ u.ownBlock = v.ownBlock ∧ w.grownBy w' v.ownBlock
theorem Tryz.zeroI (w : World) : (zeroValue 2).run Tryz.prog w = .ok (.int .i64 0) w := by kernel_rfl
set_option maxHeartbeats 2000000 in
set_option maxRecDepth 100000 in
theorem delI_any (v : Value) (bs : List Int) (B i : Nat) (w : World) (ho : OwnI w B v bs) (hi : i < bs.length) :
    Calls Tryz.prog 50 #[v, .int .i64 (i : Int), .int .i64 ((i : Int) + 1)] w fun e w' => DelPost w B v bs i e w' := by
  obtain ⟨i0, hi0, hz0, hz1, hz2⟩ := info_parts Tryz.info2
  rcases ho.2 with ⟨_, h0⟩ | ⟨g, cap, cur, hv, _, _, hnc, hcm, _, _⟩
  · omega
  subst hv
  unfold maxLen at hcm
  have hgl : g < w.heap.size := (World.ownsRow.lt ho g rfl).2
  obtain ⟨ys, hw0, hyt, hyl⟩ := row_wide ho
  obtain ⟨n, hn⟩ : ∃ n, n = bs.length := ⟨_, rfl⟩
  have HN : Hid (n = bs.length) := hn
  rw [← hn] at hnc hi ho hyt ⊢
  obtain ⟨news, hnews⟩ : ∃ news, news = IV (bs.drop (i + 1)) := ⟨_, rfl⟩
  have hlen : news.length = n - (i + 1) := by rw [hnews, IV_length, List.length_drop, hn]
  have cells : ∀ j, j < cap → w.cell? ⟨g, j, none⟩ = ys[j]? := fun j hj => World.ownsRow.cellAt hw0 j (by omega)
  have frz : ∀ j, w.frozen? ⟨g, j, none⟩ = false := fun j => hw0.frozenAt j
  obtain ⟨A, hA, HSRC⟩ : ∃ A : Addr, (if cap = i + 1 then some (⟨g, 0, none⟩ : Addr) else some ⟨g, i + 1, none⟩) = some A ∧ Hid (∀ t u, news[t]? = some u → w.drew.cell? (A.add t) = some u) := by
    by_cases h : cap = i + 1
    · refine ⟨⟨g, 0, none⟩, by simp [h], fun t u hu => ?_⟩
      have h0 : news.length = 0 := by rw [hlen]; omega
      rw [List.length_eq_zero_iff.1 h0] at hu
      simp at hu
    · refine ⟨⟨g, i + 1, none⟩, by simp [h], fun t u hu => ?_⟩
      have ht : t < n - (i + 1) := by
        have := (List.getElem?_eq_some_iff.1 hu).1
        rwa [hlen] at this
      rw [Addr.add_lit]
      show w.cell? _ = _
      rw [cells _ (by omega), ← hu, hnews]
      have e : (IV bs)[i + 1 + t]? = (IV (bs.drop (i + 1)))[t]? := by simp [IV, List.getElem?_drop]
      rw [← e, ← hyt, List.getElem?_take_of_lt (by omega)]
  have S1 : Hid (news.length = (n - (i + 1)) * 1) := by unfold Hid; omega
  have S2 : Hid (∀ u ∈ news, u.oneCell' = true) := by unfold Hid; rw [hnews]; exact IV_oneCell _
  have S3 : Hid (∀ t, t < news.length → (w.drew.cell? ⟨g, 0 + i * 1 + t, none⟩).isSome = true ∧ w.drew.frozen? ⟨g, 0 + i * 1 + t, none⟩ = false) := by
    intro t ht
    rw [hlen] at ht
    refine ⟨?_, frz _⟩
    show (w.cell? _).isSome = true
    rw [cells _ (by omega), List.getElem?_eq_getElem (by omega)]
    rfl
  obtain ⟨r1, r2⟩ := row_setL news (0 + i * 1) w.drew ys (by exact hw0)
  obtain ⟨W1, hW1⟩ : ∃ W1, W1 = w.drew.setCells g (0 + i * 1) news := ⟨_, rfl⟩
  rw [← hW1] at r1 r2
  have HW1 : Hid (w.drew.setCells g (0 + i * 1) news = W1) := hW1.symm
  obtain ⟨q1, q2⟩ := row_setL [.int .i64 0] (n - 1) W1 _ r1
  have HGL1 : Hid (g < W1.heap.size) := (World.ownsRow.lt r1 g rfl).2
  have hpl : (setL ys (0 + i * 1) news).length = cap := by have := r1.1; omega
  have HEND : Hid (DelPost w B (.slice (some ⟨g, 0, none⟩) n cap) bs i (.returned (.slice (some ⟨g, 0, none⟩) (n - 1) cap)) (W1.setCells g (n - 1) [.int .i64 0])) := by
    refine ⟨_, rfl, ?_, rfl, ?_⟩
    · have c := row_cut q1 (m := n - 1) (by omega)
      have el : (bs.eraseIdx i).length = n - 1 := by rw [List.length_eraseIdx_of_lt (by omega), hn]
      unfold OwnI
      rw [el]
      have := del_list (bs := bs) (i := i) (by omega) hyl (by omega) (by rw [← hn]; exact hyt) (.int .i64 0)
      rw [← hn, ← hnews] at this
      rw [show 0 + i * 1 = i by omega] at c
      rw [this] at c
      exact c
    · obtain ⟨a1, a2, a3, a4, a5⟩ := r2
      obtain ⟨b1, b2, b3, b4, b5⟩ := q2
      exact ⟨b1.trans a1, b2.trans a2, b3.trans a3, Nat.le_trans a4 b4, fun k hk hne => (b5 k (Nat.lt_of_lt_of_le hk a4) hne).trans (a5 k hk hne)⟩
  have hcl : ∀ ty, (Builtin.clear_ #[24] ty #[.slice (some ⟨g, n - 1, none⟩) 1 (cap - (n - 1))]).run Tryz.prog W1 = .ok (.tuple #[]) (W1.setCells g (n - 1) [.int .i64 0]) := fun ty => by
    have := Lib.run_clear_slice (P := Tryz.prog) W1 24 2 ty (.int .i64 0) Tryz.underlying24 Tryz.zeroI rfl rfl g (n - 1) 1 (cap - (n - 1)) (by omega) (fun t ht => by
      rw [World.ownsRow.cellAt r1 _ (by omega), List.getElem?_eq_getElem (by omega)]
      rfl) (fun t _ => r1.frozenAt _)
    exact this
  clear r1 r2 q1 q2 hpl hw0 hyt hyl cells frz hnews hlen hW1
  have hic : i ≤ cap := by omega
  have hjc : i + 1 ≤ cap := by omega
  have hin : i + 1 ≤ n := by omega
  have hsum : i + (n - (i + 1)) = n - 1 := by omega
  have hone : n - (n - 1) = 1 := by omega
  have hn1 : n - 1 ≤ n := by omega
  have hn2 : cap ≠ n - 1 := by omega
  have hz1' : (0 : Int) ≤ (i : Int) + 1 := by omega
  have hz2' : (i : Int) + 1 ≤ (n : Int) := by omega
  clear hn ho
  go_enter Tryz.func50, Tryz.ntmps50
  go_wp2_with fail
  refine wp_region_noPanic ?_
  refine wp_region_held_drew (S := fun w' => g < w'.heap.size) (by kernel_rfl) hgl (fun hH => ?_)
  refine tkA 0 20 hH ?_
  try simp only [Act.put, List.setIfInBounds_toArray, List.set_cons_zero, List.set_cons_succ]
  refine tkA 1 21 hH ?_
  try simp only [Act.put, List.setIfInBounds_toArray, List.set_cons_zero, List.set_cons_succ]
  refine tkA 2 22 hH ?_
  try simp only [Act.put, List.setIfInBounds_toArray, List.set_cons_zero, List.set_cons_succ]
  refine tkA 3 23 hH ?_
  try simp only [Act.put, List.setIfInBounds_toArray, List.set_cons_zero, List.set_cons_succ]
  refine tkA 4 24 hH ?_
  try simp only [Act.put, List.setIfInBounds_toArray, List.set_cons_zero, List.set_cons_succ]
  refine tkA 5 25 hH ?_
  try simp only [Act.put, List.setIfInBounds_toArray, List.set_cons_zero, List.set_cons_succ]
  refine wpAnyH_ready (rs := [6]) (by kernel_rfl) (by simp) ?_
  refine AllReadyH.cons rfl (fun K hK => ?_) AllReadyH.nil
  refine step_append_room rfl (.tmp 22) (.tmp 25) 24 rfl 2 i0 1 Tryz.underlying24 hi0 hz1 g 0 i cap (by simp [Act.eval]) A (n - (i + 1)) (cap - (i + 1)) news (by simp [Act.eval]; try exact hA) S1.out HSRC.out S2.out (by omega) S3.out ?_
  rw [HW1.out, hsum]
  refine hK.out _ _ HGL1.out (fun h2 => ?_)
  clear hK K hH
  simp only [Act.put, List.setIfInBounds_toArray]
  refine tkA 7 0 h2 ?_
  simp only [Act.put]
  refine wpAnyH_done (by kernel_rfl) ?_ _
  refine NoPanic.normal ?_
  go_wp2
  go_ret
  exact HEND.out
end Go.Proofs.YtjnhhdnfncfedaaGreat
namespace Go.Proofs.YtjnhhdnfncfedaaGreat
open Go.RowKit
/-- The fence that asks nothing, in whatever round. -/
def FW (r : Option Nat) : Fence := { Fence.wide with round := r }
theorem fw_none : FW none = Fence.wide := rfl
theorem fw_some (l : Nat) : FW (some l) = Fence.wide.inRound l := rfl
theorem callsFW {P : Program} {f : FuncId} {args : Array Value} {w : World} {R : Ending → World → Prop} {n : Nat} {r : Option Nat} (h : Calls P f args w R) : CallsIn (FW r) n P f args w R := (callsIn_wide (n := n)).2 h
theorem rowsFW {P : Program} {row : String} {args : Array Value} {w : World} {R : Value → World → Prop} {n : Nat} {r : Option Nat} (h : Rows P row args w R) : RowsIn (FW r) n P row args w R :=
  fun c cs _ => let ⟨v, w', hr, s⟩ := h c cs; ⟨v, w', hr, stepsIn_wide.2 s⟩
theorem uponFW {P : Program} {o : Oper} {a : Act} {next : Act → World → Prop} {Q : Exit → Act → World → Prop} {r : Option Nat} {n : Nat} : ∀ x : Result Next, o.upon P a next Q x → o.uponIn (FW r) n P a next Q x := by
  intro x h
  cases x with
  | ok y w' =>
    cases y with
    | value v => exact h
    | skip => exact h
    | defer d => exact h
    | enter f args => exact ⟨fun hd => by simp [FW, Fence.wide] at hd, callsFW h⟩
    | row row args => exact ⟨fun hd => by simp [FW, Fence.wide] at hd, rowsFW h⟩
    | round l f tmps assign body => exact (h : False).elim
    | _ => exact (h : False).elim
  | halt y w' => cases y <;> first | exact h | exact (h : False).elim
def noDefer (o : Oper) : Bool := match o.op with
  | .defer _ => false
  | _ => true
theorem noDefer_ne {o : Oper} (h : noDefer o = true) : ∀ c, o.op ≠ .defer c := by
  intro c e
  unfold noDefer at h
  rw [e] at h
  cases h
theorem operFW {P : Program} {o : Oper} {a : Act} {w : World} {next : Act → World → Prop} {Q : Exit → Act → World → Prop} {r : Option Nat} {n : Nat} (hd : noDefer o = true) (h : o.wp P a w next Q) : o.wpIn (FW r) n P a w next Q := by
  refine ⟨fun _ _ => trivial, ?_⟩
  have e : o.semAt (FW r).round a.eval = execOp a.eval o := by
    cases r with
    | none => rfl
    | some l => exact Oper.semAt_some l _ o (noDefer_ne hd)
  rw [e]
  exact uponFW _ h
theorem wpOpFW {P : Program} {ops : Array Oper} {Q : Exit → Act → World → Prop} {i : Nat} {K : Act → World → Prop} {a : Act} {w : World} {r : Option Nat} {n : Nat} (hd : ops.all noDefer = true) (hQ : ¬ LetsOut Q) (h : wpOp P ops Q i K a w) : wpOpIn (FW r) n P ops Q i K a w := by
  unfold wpOp at h
  unfold wpOpIn
  cases ho : ops[i]? with
  | none => rw [ho] at h; exact h
  | some o =>
    rw [ho] at h
    simp only at h ⊢
    by_cases hw : Region.wanted o (yielded ops a.tmps) = true
    · rw [if_pos hw] at h ⊢
      rcases h with h | h
      · refine operFW ?_ h
        obtain ⟨hi, he⟩ := Array.getElem?_eq_some_iff.1 ho
        rw [← he]
        exact Array.all_eq_true.1 hd i hi
      · exact absurd h.2 hQ
    · rw [if_neg hw] at h ⊢
      exact ⟨fun _ _ => trivial, h⟩
theorem wpAnyFW {P : Program} {md : Region.Mode} {ops : Array Oper} {Q : Exit → Act → World → Prop} {r : Option Nat} {n : Nat} (hd : ops.all noDefer = true) (hQ : ¬ LetsOut Q) : ∀ (fuel : Nat) (listed : Array Bool) (a : Act) (w : World), wpAny P md ops Q fuel listed a w → wpAnyIn (FW r) n P md ops Q fuel listed a w
  | 0, _, _, _, h => h
  | fuel + 1, _, _, _, h => ⟨h.1, fun i hi => wpOpIn_mono (fun a' w' h' => wpAnyFW hd hQ fuel _ a' w' h') (wpOpFW hd hQ (h.2 i hi))⟩
theorem wpOpsFW {P : Program} {ops : Array Oper} {Q : Exit → Act → World → Prop} {r : Option Nat} {n : Nat} (hd : ops.all noDefer = true) (hQ : ¬ LetsOut Q) : ∀ (l : List Nat) (a : Act) (w : World), wpOps P ops Q l a w → wpOpsIn (FW r) n P ops Q l a w
  | [], _, _, h => h
  | i :: rest, a, w, h => by
    rw [wpOps_cons] at h
    rw [wpOpsIn_cons]
    exact wpOpIn_mono (fun a' w' h' => wpOpsFW hd hQ rest a' w' h') (wpOpFW hd hQ h)
/-- A region that draws its order, in a round: by the plain walk. -/
theorem regionFW {P : Program} {id : Nat} {ops : Array Oper} {Q : Exit → Act → World → Prop} {S : World → Prop} {a : Act} {w : World} {r : Option Nat} {n : Nat} (hm : P.follows .mixedOrders = true) (hd : ops.all noDefer = true) (hQ : ¬ LetsOut Q) (hS : S w.drew)
    (h : S w.drew → wpAnyH P .any ops (NoPanic Q) S ops.size (Array.replicate ops.size false) a w.drew) : (Code.region id ops true).wpIn (FW r) n P Q a w := by
  refine wpIn_mono (wpIn_region_any (Q := NoPanic Q) hm (wpAnyFW hd ?_ _ _ _ _ (wpAny_of_held _ _ _ _ (h hS)))) NoPanic.imp
  rintro ⟨a', w', h'⟩
  exact hQ ⟨a', w', h'⟩
/-- One that does not. -/
theorem plainFW {P : Program} {id : Nat} {ops : Array Oper} {Q : Exit → Act → World → Prop} {a : Act} {w : World} {r : Option Nat} {n : Nat} (l : List Oper) (hl : ops = l.toArray) (hd : ops.all noDefer = true) (hQ : ¬ LetsOut Q)
    (h : wpList P ops Q l a w) : (Code.region id ops false).wpIn (FW r) n P Q a w := by
  refine wpIn_region (wpOpsFW hd hQ _ a w ?_)
  have e := wpOps_eq_wpList (P := P) (ops := ops) (Q := Q) l 0 (fun j => by rw [hl]; simp)
  rw [show List.range ops.size = List.range' 0 l.length by rw [hl, List.range_eq_range']; simp, e]
  exact h
end Go.Proofs.YtjnhhdnfncfedaaGreat
namespace Go.Proofs.YtjnhhdnfncfedaaGreat
open Go.RowKit Go.Shelf
attribute [local go_sem] Oper.semAt_some
/-- A table that can be read in w. -/
abbrev RT (w : World) := { t : TV // RdI w t.vb t.T.bits ∧ RdS w t.vk t.T.blocks ∧ ∀ s ∈ t.T.blocks, s.size ≤ 1000000000 }
/-- What a round that goes on keeps. -/
def KpT (n₀ : Nat) (W W' : World) : Prop := Below n₀ W W' ∧ ∀ (k : Nat) (cs : Array Value) (fz : Nat × Nat), W.heap[k]? = some (.cells cs 31 fz) → W'.heap[k]? = W.heap[k]?
theorem KpT.trans {n₀ : Nat} {A B C : World} (h : KpT n₀ A B) (k : KpT n₀ B C) : KpT n₀ A C :=
  ⟨h.1.trans k.1, fun i cs fz hi => (k.2 i cs fz ((h.2 i cs fz hi).trans hi)).trans (h.2 i cs fz hi)⟩
theorem KpT.putObj {n₀ : Nat} {w : World} (hB : n₀ ≤ w.heap.size) (W : World) (l : Nat) (o o' : Obj) (hl : w.heap.size ≤ l) (ho : W.heap[l]? = some o) (hc : o.isCells = false) (hw : o.isWalk = false) : KpT n₀ W (W.putObj l o') := by
  refine ⟨belowK_b hB W l o o' hl ho hc hw, fun k cs fz hk => World.putObj_heap_other (fun e => ?_)⟩
  subst e; rw [ho] at hk; cases hk; cases hc
theorem KpT.alloc {n₀ : Nat} {W : World} (h : n₀ ≤ W.heap.size) (o : Obj) : KpT n₀ W (W.alloc o) :=
  ⟨(Below.refl n₀ W).alloc h o, fun k _ _ hk => Below.heap_alloc W o k (Array.getElem?_eq_some_iff.1 hk).1⟩
theorem rt_nth {w : World} {zs : List (RT w)} {k : Nat} (h : k < zs.length) : nthT (zs.map (·.1)) k = (zs[k]).1 := by rw [nthT_eq (by simpa using h)]; simp
theorem lv_cells {w : World} {G : Nat} {vy vo : Value} (h : w.heap[G]? = some (.cells #[vy, vo] 31 (0, 0))) : w.cell? ⟨G, 0, none⟩ = some vy ∧ w.cell? ⟨G, 1, none⟩ = some vo := by
  constructor <;> simp [World.cell?, h]
theorem take_snoc2 {α : Type} {zs : List α} {k : Nat} (h : k < zs.length) (pre : List α) : pre ++ zs.take (k + 1) = (pre ++ zs.take k) ++ [zs[k]] := by
  rw [List.take_succ_eq_append_getElem h, List.append_assoc]
theorem take_snoc1 {α : Type} {zs : List α} {k : Nat} (h : k < zs.length) (_ : List α) : zs.take (k + 1) = zs.take k ++ [zs[k]] := List.take_succ_eq_append_getElem h
set_option maxHeartbeats 8000000 in
set_option maxRecDepth 100000 in
theorem tables1_in (w0 : World) (n : Nat) (hn : 1 ≤ n) (l Bn : Nat) (vy vo : Value) (ys os : List (RT w0)) (J Jx : List (RT w0) → World → Prop)
    (hY : ∀ pre x W, J pre W → pre.length < ys.length + os.length → YieldAt Fence.wide (n - 1) Tryz.prog l #[.agg #[.string x.1.T.first, .string x.1.T.last, x.1.vb, x.1.vk]] W fun e W' =>
      (e = .returned (.bool true) ∧ J (pre ++ [x]) W' ∧ KpT w0.heap.size W W') ∨ (e = .returned (.bool false) ∧ Jx (pre ++ [x]) W'))
    (W : World) (hJ : AbidesFrom W.heap.size J) (h1 : W.cell? ⟨Bn, 1, none⟩ = some vy) (h2 : W.cell? ⟨Bn, 2, none⟩ = some vo) (hry : RdTs w0 vy (ys.map (·.1))) (hro : RdTs w0 vo (os.map (·.1))) (hb : Below w0.heap.size w0 W) (h0 : J [] W) :
    CallsIn Fence.wide n Tryz.prog 89 #[.func (.yield l) #[] #[], .pointer (some ⟨Bn, 0, none⟩)] W fun e W' => (∃ v, e = .returned v) ∧
      ((∃ zs, zs = ys ++ os ∧ J zs W') ∨ (∃ pre, pre <+: ys ++ os ∧ Jx pre W')) := by
  obtain ⟨ay, cy, hvy, hly, hmy, -⟩ := id hry
  obtain ⟨ao, co, hvo, hlo, hmo, -⟩ := id hro
  rw [List.length_map] at hvy hly hvo hlo
  obtain ⟨yn, hyn⟩ : ∃ yn, yn = ys.length := ⟨_, rfl⟩
  obtain ⟨on, hon⟩ : ∃ on, on = os.length := ⟨_, rfl⟩
  have HYN : Hid (yn = ys.length) := hyn
  have HON : Hid (on = os.length) := hon
  rw [← hyn] at hvy hly hY
  rw [← hon] at hvo hlo hY
  subst hvy
  subst hvo
  unfold maxLen at hmy hmo
  have HY : Hid (∀ pre x W, J pre W → pre.length < yn + on → _) := hY
  have HJ : Hid (AbidesFrom W.heap.size J) := hJ
  have hJ1 : J [] (W.alloc (.cells #[.slice ay yn cy, .slice ao on co] 31)) := hJ [] W _ none h0 (World.grownBy_alloc W _ none) (fun r e => by cases e)
  have hb1 : Below w0.heap.size w0 (W.alloc (.cells #[.slice ay yn cy, .slice ao on co] 31)) := hb.alloc hb.size _
  have hG : (W.alloc (.cells #[.slice ay yn cy, .slice ao on co] 31)).heap[W.heap.size]? = some (.cells #[.slice ay yn cy, .slice ao on co] 31 (0, 0)) := World.alloc_heap_new W _
  clear hyn hon hY hJ h0
  refine callsIn_of_wp Tryz.func89 rfl trivial ?_ rfl
  simp only [Tryz.ntmps89, List.size_toArray, List.length_cons, List.length_nil, Nat.reduceAdd, Nat.reduceSub, Array.replicate_succ, Array.replicate_zero, List.push_toArray, List.append_toArray, List.nil_append, List.cons_append]
  gi_wp2
  gi_loopw [13] (fun i wr => ∃ j : Nat, j ≤ 2 ∧ i = .int .i64 j ∧ J (if j = 0 then [] else if j = 1 then ys else ys ++ os) wr ∧ wr.heap[W.heap.size]? = some (.cells #[.slice ay yn cy, .slice ao on co] 31 (0, 0)) ∧ Below w0.heap.size w0 wr ∧ W.heap.size ≤ wr.heap.size) (fun i _ => 2 - (intOf i).toNat)
  case atStart => exact ⟨0, Nat.zero_le _, rfl, hJ1, hG, hb1, by simp⟩
  case round =>
    obtain ⟨j, hj, rfl, hJs, hGs, hbs, hWs⟩ := hrel
    clear hJ1 hb1 hG hb h1 h2
    obtain ⟨g0, g1⟩ := lv_cells hGs
    obtain rfl | rfl | rfl : j = 0 ∨ j = 1 ∨ j = 2 := by omega
    · gi_wp2
      gi_loopw [19] (fun i wr => ∃ k : Nat, k ≤ yn ∧ i = .int .i64 k ∧ J (ys.take k) wr ∧ wr.heap[W.heap.size]? = some (.cells #[.slice ay yn cy, .slice ao on co] 31 (0, 0)) ∧ Below w0.heap.size w0 wr ∧ W.heap.size ≤ wr.heap.size) (fun i _ => yn - (intOf i).toNat)
      case atStart => exact ⟨0, Nat.zero_le _, rfl, by simpa using hJs, hGs, hbs, hWs⟩
      case round =>
        clear hJs hGs hbs g0 g1 hWs
        obtain ⟨k, hk, rfl, hJs, hGs, hbs, hWs⟩ := hrel
        by_cases hlt : k < yn
        · have hkl : k < ys.length := by rw [← HYN.out]; exact hlt
          obtain ⟨b, off, rfl, hc, -, -⟩ := (hry.below hbs).at k (by rw [List.length_map]; exact hkl)
          rw [rt_nth hkl] at hc
          obtain ⟨x, hx⟩ : ∃ x, x = ys[k] := ⟨_, rfl⟩
          rw [← hx] at hc
          have HTK : Hid (ys.take (k + 1) = (ys.take k) ++ [x]) := by rw [hx]; exact take_snoc1 hkl []
          have hlen : (ys.take k).length < yn + on := by
            have h1 := HYN.out
            have h2 := HON.out
            simp
            omega
          have HPF : Hid ((ys.take k) ++ [x] <+: ys ++ os) := by
            rw [← HTK.out]
            exact (List.take_prefix _ _).trans (List.prefix_append _ _)
          obtain ⟨c0, c1, c2, c3⟩ := id hc
          have hkc : k < cy := by omega
          have hYx := fun W hJ => HY.out (ys.take k) x W hJ hlen
          obtain ⟨ab, cb, hvb, -⟩ := id x.2.1
          obtain ⟨ak, ck, hvk, -⟩ := id x.2.2.1
          generalize x.1.T.bits.length = bn at hvb
          generalize x.1.T.blocks.length = kn at hvk
          rw [hvb] at c2 hYx
          rw [hvk] at c3 hYx
          have hJ2 := HJ.out _ wr _ none hJs (World.grownBy_alloc wr (.cells #[.string x.1.T.first, .string x.1.T.last, .slice ab bn cb, .slice ak kn ck] 85) none) (fun r e => by cases e)
          have hb2 := hbs.alloc hbs.size (.cells #[.string x.1.T.first, .string x.1.T.last, .slice ab bn cb, .slice ak kn ck] 85)
          have hG2 := (Below.heap_alloc wr (.cells #[.string x.1.T.first, .string x.1.T.last, .slice ab bn cb, .slice ak kn ck] 85) _ (Array.getElem?_eq_some_iff.1 hGs).1).trans hGs
          have hs2 : W.heap.size ≤ (wr.alloc (.cells #[.string x.1.T.first, .string x.1.T.last, .slice ab bn cb, .slice ak kn ck] 85)).heap.size := by simp; omega
          obtain ⟨fn, tmps, assign, body, hy, hR⟩ := hYx _ hJ2
          have HR : Hid (RoundIn _ _ _ _ _ _ _ _ _ _) := hR
          clear hR hx hkl hJs hGs hbs hWs hJ2 hc hlen hYx hvb hvk
          gi_wp2
          refine HR.out.mono ?_
          rintro e W3 (⟨rfl, hJ3, hk3⟩ | ⟨rfl, hJx3⟩)
          · have hG3 := (hk3.2 _ _ _ hG2).trans hG2
            have hb3 := hb2.trans hk3.1
            have hs3 : W.heap.size ≤ W3.heap.size := Nat.le_trans hs2 (by have := (Array.getElem?_eq_some_iff.1 hG3).1; exact Nat.le_of_lt_succ (Nat.lt_succ_of_le (Nat.le_trans (Nat.le_refl _) hk3.1.size)))
            rw [← HTK.out] at hJ3
            clear HR hy hk3 hG2 hb2 hs2 c0 c1 c2 c3
            gi_wp2
            go_roundw
            case rel => exact ⟨k + 1, by omega, by go_num, hJ3, hG3, hb3, hs3⟩
            case measure => simp [intOf]; omega
          · clear HR hy
            gi_wp2
            refine bodyPost_ret (results_none rfl _ _ _) rfl ?_
            exact ⟨⟨_, rfl⟩, .inr ⟨_, HPF.out, hJx3⟩⟩
        · have hke : k = yn := by omega
          rw [hke, HYN.out, List.take_length] at hJs
          clear hke
          gi_wp2
          go_roundw
          case rel => exact ⟨1, by omega, by go_num, hJs, hGs, hbs, hWs⟩
          case measure => simp [intOf]
    · gi_wp2
      gi_loopw [19] (fun i wr => ∃ k : Nat, k ≤ on ∧ i = .int .i64 k ∧ J (ys ++ os.take k) wr ∧ wr.heap[W.heap.size]? = some (.cells #[.slice ay yn cy, .slice ao on co] 31 (0, 0)) ∧ Below w0.heap.size w0 wr ∧ W.heap.size ≤ wr.heap.size) (fun i _ => on - (intOf i).toNat)
      case atStart => exact ⟨0, Nat.zero_le _, rfl, by simpa using hJs, hGs, hbs, hWs⟩
      case round =>
        clear hJs hGs hbs g0 g1 hWs
        obtain ⟨k, hk, rfl, hJs, hGs, hbs, hWs⟩ := hrel
        by_cases hlt : k < on
        · have hkl : k < os.length := by rw [← HON.out]; exact hlt
          obtain ⟨b, off, rfl, hc, -, -⟩ := (hro.below hbs).at k (by rw [List.length_map]; exact hkl)
          rw [rt_nth hkl] at hc
          obtain ⟨x, hx⟩ : ∃ x, x = os[k] := ⟨_, rfl⟩
          rw [← hx] at hc
          have HTK : Hid (ys ++ os.take (k + 1) = (ys ++ os.take k) ++ [x]) := by rw [hx]; exact take_snoc2 hkl ys
          have hlen : (ys ++ os.take k).length < yn + on := by
            have h1 := HYN.out
            have h2 := HON.out
            simp
            omega
          have HPF : Hid ((ys ++ os.take k) ++ [x] <+: ys ++ os) := by
            rw [← HTK.out]
            exact List.prefix_append_right_inj ys |>.2 (List.take_prefix _ _)
          obtain ⟨c0, c1, c2, c3⟩ := id hc
          have hkc : k < co := by omega
          have hYx := fun W hJ => HY.out (ys ++ os.take k) x W hJ hlen
          obtain ⟨ab, cb, hvb, -⟩ := id x.2.1
          obtain ⟨ak, ck, hvk, -⟩ := id x.2.2.1
          generalize x.1.T.bits.length = bn at hvb
          generalize x.1.T.blocks.length = kn at hvk
          rw [hvb] at c2 hYx
          rw [hvk] at c3 hYx
          have hJ2 := HJ.out _ wr _ none hJs (World.grownBy_alloc wr (.cells #[.string x.1.T.first, .string x.1.T.last, .slice ab bn cb, .slice ak kn ck] 85) none) (fun r e => by cases e)
          have hb2 := hbs.alloc hbs.size (.cells #[.string x.1.T.first, .string x.1.T.last, .slice ab bn cb, .slice ak kn ck] 85)
          have hG2 := (Below.heap_alloc wr (.cells #[.string x.1.T.first, .string x.1.T.last, .slice ab bn cb, .slice ak kn ck] 85) _ (Array.getElem?_eq_some_iff.1 hGs).1).trans hGs
          have hs2 : W.heap.size ≤ (wr.alloc (.cells #[.string x.1.T.first, .string x.1.T.last, .slice ab bn cb, .slice ak kn ck] 85)).heap.size := by simp; omega
          obtain ⟨fn, tmps, assign, body, hy, hR⟩ := hYx _ hJ2
          have HR : Hid (RoundIn _ _ _ _ _ _ _ _ _ _) := hR
          clear hR hx hkl hJs hGs hbs hWs hJ2 hc hlen hYx hvb hvk
          gi_wp2
          refine HR.out.mono ?_
          rintro e W3 (⟨rfl, hJ3, hk3⟩ | ⟨rfl, hJx3⟩)
          · have hG3 := (hk3.2 _ _ _ hG2).trans hG2
            have hb3 := hb2.trans hk3.1
            have hs3 : W.heap.size ≤ W3.heap.size := Nat.le_trans hs2 (by have := (Array.getElem?_eq_some_iff.1 hG3).1; exact Nat.le_of_lt_succ (Nat.lt_succ_of_le (Nat.le_trans (Nat.le_refl _) hk3.1.size)))
            rw [← HTK.out] at hJ3
            clear HR hy hk3 hG2 hb2 hs2 c0 c1 c2 c3
            gi_wp2
            go_roundw
            case rel => exact ⟨k + 1, by omega, by go_num, hJ3, hG3, hb3, hs3⟩
            case measure => simp [intOf]; omega
          · clear HR hy
            gi_wp2
            refine bodyPost_ret (results_none rfl _ _ _) rfl ?_
            exact ⟨⟨_, rfl⟩, .inr ⟨_, HPF.out, hJx3⟩⟩
        · have hke : k = on := by omega
          rw [hke, HON.out, List.take_length] at hJs
          clear hke
          gi_wp2
          go_roundw
          case rel => exact ⟨2, by omega, by go_num, hJs, hGs, hbs, hWs⟩
          case measure => simp [intOf]
    · gi_wp2
      go_end0
      exact ⟨⟨_, rfl⟩, .inl ⟨_, rfl, hJs⟩⟩
theorem tables_any (X : TrX) (w : World) :
    Calls Tryz.prog 62 #[.agg #[X.vm, X.vy, X.vo, .int .i64 X.seq, X.vs]] w fun e w' => e = .returned (.func (.func 89) #[] #[.pointer (some ⟨w.heap.size, 0, none⟩)]) ∧ w' = w.alloc (.cells #[X.vm, X.vy, X.vo, .int .i64 X.seq, X.vs] 33) := by
  go_enter Tryz.func62, Tryz.ntmps62
  go_wp2
  go_ret
  exact ⟨rfl, rfl⟩
theorem tables_stops (w0 : World) (n : Nat) (hn : 1 ≤ n) (Bn : Nat) (vy vo : Value) (ys os : List (RT w0)) (w : World) (hBn : Bn < w.heap.size) (h0 : w0.heap.size ≤ w.heap.size) (c1 : w.cell? ⟨Bn, 1, none⟩ = some vy) (c2 : w.cell? ⟨Bn, 2, none⟩ = some vo) (hry : RdTs w0 vy (ys.map (·.1))) (hro : RdTs w0 vo (os.map (·.1))) (hb : Below w0.heap.size w0 w) :
    SeqStopsK Fence.wide n Tryz.prog 89 #[.pointer (some ⟨Bn, 0, none⟩)] (fun x : RT w0 => #[.agg #[.string x.1.T.first, .string x.1.T.last, x.1.vb, x.1.vk]]) (KpT w0.heap.size) (fun zs => zs = ys ++ os) (fun pre => pre <+: ys ++ os) (ys.length + os.length) w := fun l J Jx W hW hJ _ hY h1 =>
  tables1_in w0 n hn l Bn vy vo ys os J Jx hY W hJ ((hW.cell (p := ⟨Bn, 1, none⟩) hBn).trans c1) ((hW.cell (p := ⟨Bn, 2, none⟩) hBn).trans c2) hry hro (hb.trans (hW.mono h0)) h1
end Go.Proofs.YtjnhhdnfncfedaaGreat
