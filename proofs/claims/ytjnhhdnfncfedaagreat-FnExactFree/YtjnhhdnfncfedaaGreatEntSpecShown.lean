/- The contract of the model's Shown. -/
import Derived.Test.YtjnhhdnfncfedaaGreatG06
namespace Go.Proofs.YtjnhhdnfncfedaaGreat
open Go.RowKit
theorem entAt_boxS (W : World) (x : Ent) (t : TypeId) : EntAt (W.alloc (.cells #[.string x.key, .string x.val, .int .i64 x.seq, .bool x.gone] t)) W.heap.size 0 x :=
  ⟨by simp [World.cell?_alloc_at], by simp [World.cell?_alloc_at], by simp [World.cell?_alloc_at], by simp [World.cell?_alloc_at]⟩
theorem rdE_oneS {w : World} {b : Nat} {x : Ent} (h : EntAt w b 0 x) : RdE w (.slice (some ⟨b, 0, none⟩) 1 1) [x] :=
  ⟨_, 1, rfl, Nat.le_refl _, by decide, (fun h => by cases h), .inr ⟨b, 0, rfl, fun i hi => by
    have : i = 0 := by simpa using hi
    subst this
    exact h⟩⟩
theorem lastK_yes {es : List Ent} {q : Int} {i : Nat} (h : (nth es i).seq ≤ q) : lastK es q (i + 1) = (nth es i).key := by rw [lastK, if_pos h]
theorem lastK_no {es : List Ent} {q : Int} {i : Nat} (h : ¬ (nth es i).seq ≤ q) : lastK es q (i + 1) = lastK es q i := by rw [lastK, if_neg h]
set_option maxHeartbeats 4000000 in
set_option maxRecDepth 100000 in
theorem l3Shown_any (v : Value) (es : List Ent) (q : Int) (w : World) (hr : RdE w v es) (hok : okL es = true) :
    Calls Tryz.prog 69 #[v, .int .i64 q] w fun e w' => ∃ u, e = .returned u ∧ OwnE w' w.heap.size u (shTo es q es.length) ∧ Below w.heap.size w w' := by
  obtain ⟨a, cap, hv, hl, hm, _⟩ := id hr
  unfold maxLen at hm
  subst hv
  have hlen := okL_len hok
  go_enter Tryz.func69, Tryz.ntmps69
  go_wp2
  go_loopw [5, 6, 7] (fun o ky i wr => ∃ (k : Nat) (K : ByteArray), k ≤ es.length ∧ i = .int .i64 k ∧ ky = .string K ∧ Hid (K = lastK es q k) ∧ OwnE wr w.heap.size o (shTo es q k) ∧ Below w.heap.size w wr) (fun _ _ i _ => es.length - (intOf i).toNat)
  case atStart => exact ⟨0, _, Nat.zero_le _, rfl, rfl, rfl, ownE_none w, below1 _ _⟩
  case round =>
    obtain ⟨k, K, hk, rfl, rfl, HK, ho, hb⟩ := hrel
    by_cases hlt : k < es.length
    · obtain ⟨b, off, rfl, hc⟩ := (hr.below hb).at rfl k hlt
      obtain ⟨y, hy⟩ : ∃ y, y = nth es k := ⟨_, rfl⟩
      rw [← hy] at hc
      have HY : Hid (y = nth es k) := hy
      clear hy
      obtain ⟨c0, c1, c2, c3⟩ := hc
      have hsl := shTo_len es q k
      by_cases hq : y.seq ≤ q
      · have KB := beq_kEq y.key K
        have HI := lastK_iff hok q k hlt (by rw [← HY.out]; exact hq)
        rw [← HY.out, ← HK.out] at HI
        have HK2 : Hid (y.key = lastK es q (k + 1)) := by unfold Hid; rw [lastK_yes (by rw [← HY.out]; exact hq), ← HY.out]
        cases hke : kEq y.key K with
        | true =>
          rw [hke] at KB HI
          have hsh : shTo es q (k + 1) = shTo es q k := shTo_no (by unfold shAt; rw [HI]; rfl)
          have HO : Hid (OwnE wr w.heap.size u5 (shTo es q (k + 1))) := by unfold Hid; rw [hsh]; exact ho
          have HK3 : Hid (K = lastK es q (k + 1)) := by unfold Hid; rw [← HK2.out]; unfold kEq at hke; exact (of_decide_eq_true hke).symm
          clear hsh HI ho
          go_wp2
          go_roundw
          case rel => exact ⟨k + 1, _, by omega, by go_num, rfl, HK3, HO.out, hb⟩
          case measure => simp [intOf]; omega
        | false =>
          rw [hke] at KB HI
          cases hgn : y.gone with
          | true =>
            have hsh : shTo es q (k + 1) = shTo es q k := shTo_no (by unfold shAt; rw [← HY.out, hgn]; simp)
            have HO : Hid (OwnE wr w.heap.size u5 (shTo es q (k + 1))) := by unfold Hid; rw [hsh]; exact ho
            rw [hgn] at c3
            clear hsh HI ho
            go_wp2
            go_roundw
            case rel => exact ⟨k + 1, _, by omega, by go_num, rfl, HK2, HO.out, hb⟩
            case measure => simp [intOf]; omega
          | false =>
            have hsh : shTo es q (k + 1) = shTo es q k ++ [y] := by rw [shTo_yes (by unfold shAt; rw [HI, ← HY.out, hgn]; rfl), ← HY.out]
            have HSH : Hid (shTo es q (k + 1) = shTo es q k ++ [y]) := hsh
            rw [hgn] at c3
            have hyy : Hid (y = ⟨y.key, y.val, y.seq, false⟩) := by unfold Hid; rw [← hgn]
            have hs := hb.size
            clear hsh HI
            go_wp2_with (at_builtin; (refine wpList_append_ents rfl _ _ rfl w.heap.size _ _ (shTo es q k) [y] rfl rfl ?c1 ?c2 ?c3 ?c4 ?_))
            case c1 => exact ho.below (below1 _ _)
            case c2 => rw [hyy.out]; exact rdE_oneS (entAt_boxS _ ⟨y.key, y.val, y.seq, false⟩ _)
            case c3 => simp; omega
            case c4 => simp; omega
            intro v2 w2 ho2 hg2
            have bz2 : Below w.heap.size w w2 := (hb.alloc hb.size _).grown hg2 (by simp; omega) (fun k hk => (World.ownsRow.lt ho k hk).1)
            have HO : Hid (OwnE w2 w.heap.size v2 (shTo es q (k + 1))) := by unfold Hid; rw [HSH.out]; exact ho2
            clear ho ho2 hg2 hb
            go_wp2
            go_roundw
            case rel => exact ⟨k + 1, _, by omega, by go_num, rfl, HK2, HO.out, bz2⟩
            case measure => simp [intOf]; omega
      · skip
        have hq2 : q < y.seq := by omega
        have hsh : shTo es q (k + 1) = shTo es q k := shTo_no (by unfold shAt isShown; rw [← HY.out]; simp [hq])
        have HO : Hid (OwnE wr w.heap.size u5 (shTo es q (k + 1))) := by unfold Hid; rw [hsh]; exact ho
        have HK3 : Hid (K = lastK es q (k + 1)) := by unfold Hid; rw [lastK_no (by rw [← HY.out]; exact hq)]; exact HK.out
        clear hsh ho hq
        go_wp2
        go_roundw
        case rel => exact ⟨k + 1, _, by omega, by go_num, rfl, HK3, HO.out, hb⟩
        case measure => simp [intOf]; omega
    · have hke : k = es.length := by omega
      subst hke
      go_wp2
      go_ret
      exact ⟨_, rfl, ho, hb⟩
/-- What Shown leaves. -/
def RowPost (w : World) (ys : List Ent) (e : Ending) (w' : World) : Prop :=
  ∃ u, e = .returned u ∧ OwnE w' w.heap.size u ys ∧ Below w.heap.size w w'
end Go.Proofs.YtjnhhdnfncfedaaGreat
