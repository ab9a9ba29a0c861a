/- The contracts of the laws' own helpers over slices of slices of entries: measured, copied, alike, marked. -/
import Derived.Test.YtbefmbjlogkmbaaGreatG27
import Derived.Test.YtbefmbjlogkmbaaGreatG32
namespace Go.Proofs.YtbefmbjlogkmbaaGreat
open Go.RowKit
structure OwnLL (w : World) (lo mid hi : Nat) (v : Value) (us : List (Value × List Ent)) : Prop where
  row : OwnP w lo v us
  rowlt : ∀ k, v.ownBlock = some k → k < mid
  ins : ∀ p ∈ us, OwnE w mid p.1 p.2 ∧ ∀ k, p.1.ownBlock = some k → k < hi
  apart : us.Pairwise (fun p q => ∀ k, p.1.ownBlock = some k → q.1.ownBlock ≠ some k)
  le : lo ≤ mid
theorem OwnLL.below {w w' : World} {lo mid hi : Nat} {v : Value} {us : List (Value × List Ent)} (h : OwnLL w lo mid hi v us) (hb : Below w.heap.size w w') : OwnLL w' lo mid hi v us :=
  ⟨h.row.below hb, h.rowlt, fun p hp => ⟨(h.ins p hp).1.below hb, (h.ins p hp).2⟩, h.apart, h.le⟩
theorem OwnLL.pieces {w : World} {lo mid hi : Nat} {v : Value} {us : List (Value × List Ent)} (h : OwnLL w lo mid hi v us) : Pieces w v us := h.row.pieces (fun p hp => (h.ins p hp).1.rd)
def Lists (w : World) (v : Value) (ps : List (Value × List Ent)) : Prop :=
  ∃ a cap, v = .slice a ps.length cap ∧ ps.length ≤ cap ∧ cap ≤ maxLen ∧ (ps = [] ∨ ∃ b off, a = some ⟨b, off, none⟩ ∧ ∀ i (h : i < ps.length), w.cell? ⟨b, off + i, none⟩ = some (ps[i].1) ∧ RdE w ps[i].1 ps[i].2)
theorem Lists.below {w w' : World} {v : Value} {ps : List (Value × List Ent)} (h : Lists w v ps) (hb : Below w.heap.size w w') : Lists w' v ps := by
  obtain ⟨a, cap, hv, h1, h2, h3⟩ := h
  refine ⟨a, cap, hv, h1, h2, ?_⟩
  rcases h3 with h3 | ⟨b, off, ha, hc⟩
  · exact .inl h3
  · exact .inr ⟨b, off, ha, fun i hi => ⟨by rw [hb.cell (World.block_lt_of_cell? w _ (hc i hi).1)]; exact (hc i hi).1, (hc i hi).2.below hb⟩⟩
theorem Lists.at {w : World} {v : Value} {ps : List (Value × List Ent)} (hp : Lists w v ps) : ∃ a cap, v = .slice a ps.length cap ∧ ps.length ≤ cap ∧ cap ≤ maxLen ∧
    ∀ k, k < ps.length → ∀ w', Below w.heap.size w w' → ∃ b off aa zn cc zs, a = some ⟨b, off, none⟩ ∧ w'.cell? ⟨b, off + k, none⟩ = some (.slice aa zn cc) ∧ RdE w' (.slice aa zn cc) zs ∧ (ps.map (·.2))[k]? = some zs := by
  obtain ⟨a, cap, hv, h1, h2, h3⟩ := hp
  refine ⟨a, cap, hv, h1, h2, fun k hk w' hb => ?_⟩
  rcases h3 with h3 | ⟨b, off, ha, hc⟩
  · subst h3; simp at hk
  · obtain ⟨aa, cc, hu, _⟩ := id (hc k hk).2
    have e1 := (hc k hk).1
    have e2 := (hc k hk).2
    rw [hu] at e1 e2
    exact ⟨b, off, aa, _, cc, _, ha, (hb.cell (World.block_lt_of_cell? w _ e1)).trans e1, e2.below hb, by simp [hk]⟩
set_option maxHeartbeats 1000000 in
set_option maxRecDepth 100000 in
theorem szEntry_at (x : Ent) (l : Int) (w : World) (hl0 : 0 ≤ l) (hl1 : l ≤ 1048576) (hk : x.key.size ≤ maxLen) (hv : x.val.size ≤ maxLen) :
    Calls Tryz.prog 54 #[.agg #[.string x.key, .string x.val, .int .i64 x.seq, .bool x.gone], .int .i64 l] w fun e w' => Below w.heap.size w w' ∧ ∃ z : Int, e = .returned (.int .i64 z) ∧ (z = -1 ∨ 0 ≤ z ∧ z ≤ l ∧ x.key.size ≤ 1048576 ∧ x.val.size ≤ 1048576) := by
  unfold maxLen at hk hv
  by_cases h1 : l - (x.key.size : Int) < 0
  · go_enter Tryz.func54, Tryz.ntmps54
    go_wp2
    go_ret
    exact ⟨below1 _ _, -1, rfl, .inl rfl⟩
  · by_cases h2 : l - (x.key.size : Int) - (x.val.size : Int) < 0
    · go_enter Tryz.func54, Tryz.ntmps54
      go_wp2
      go_ret
      exact ⟨below1 _ _, -1, rfl, .inl rfl⟩
    · go_enter Tryz.func54, Tryz.ntmps54
      go_wp2
      go_ret
      exact ⟨below1 _ _, _, rfl, .inr ⟨by omega, by omega, by omega, by omega⟩⟩
def SzAt (w : World) (es : List Ent) (l : Int) (e : Ending) (w' : World) : Prop :=
  Below w.heap.size w w' ∧ ∃ z : Int, e = .returned (.int .i64 z) ∧ (z = -1 ∨ 0 ≤ z ∧ z + es.length ≤ l ∧ ∀ x ∈ es, x.key.size ≤ 1048576 ∧ x.val.size ≤ 1048576)
set_option maxHeartbeats 1000000 in
set_option maxRecDepth 100000 in
theorem szEnts_at (v : Value) (es : List Ent) (l : Int) (w : World) (hr : RdE w v es) (hsz : ∀ x ∈ es, x.key.size ≤ maxLen ∧ x.val.size ≤ maxLen) (hl0 : 0 ≤ l) (hl1 : l ≤ 1048576) :
    Calls Tryz.prog 21 #[v, .int .i64 l] w fun e w' => SzAt w es l e w' := by
  obtain ⟨a, cap, hv, hl, hm, _⟩ := id hr
  unfold maxLen at hm
  subst hv
  have HSZ : Hid (∀ x ∈ es, x.key.size ≤ maxLen ∧ x.val.size ≤ maxLen) := hsz
  clear hsz
  by_cases hbig : l < es.length
  · have hb2 : l - (es.length : Int) < 0 := by omega
    go_enter Tryz.func21, Tryz.ntmps21
    go_wp2
    go_ret
    exact ⟨Below.refl _ _, -1, rfl, .inl rfl⟩
  · have hb2 : ¬ l - (es.length : Int) < 0 := by omega
    go_enter Tryz.func21, Tryz.ntmps21
    go_wp2
    go_loopw [1, 5] (fun lv i wr => ∃ (k : Nat) (x : Int), k ≤ es.length ∧ i = .int .i64 k ∧ lv = .int .i64 x ∧ 0 ≤ x ∧ x ≤ l - (es.length : Int) ∧ Hid (∀ j, j < k → (nth es j).key.size ≤ 1048576 ∧ (nth es j).val.size ≤ 1048576) ∧ Below w.heap.size w wr) (fun _ i _ => es.length - (intOf i).toNat)
    case atStart => exact ⟨0, _, Nat.zero_le _, rfl, rfl, by omega, by omega, (fun j h => absurd h (Nat.not_lt_zero _)), Below.refl _ _⟩
    case round =>
      obtain ⟨k, x, hk, rfl, rfl, hx0, hx1, HJ, hb⟩ := hrel
      by_cases hlt : k < es.length
      · obtain ⟨b, off, rfl, hc⟩ := (hr.below hb).at rfl k hlt
        have hsk := HSZ.out _ (List.getElem_mem hlt)
        rw [← nth_eq hlt] at hsk
        obtain ⟨y, hy⟩ : ∃ y, y = nth es k := ⟨_, rfl⟩
        rw [← hy] at hc hsk
        have HY : Hid (y = nth es k) := hy
        clear hy
        obtain ⟨c0, c1, c2, c3⟩ := hc
        go_wp2_with fail
        refine (szEntry_at y x _ hx0 (by omega) hsk.1 hsk.2).mono ?_
        rintro e w1 ⟨hb1, z, rfl, hz⟩
        have bz := hb.trans (hb1.mono hb.size)
        rcases hz with hz | ⟨hz0, hz1, hz2, hz3⟩
        · subst hz
          go_wp2
          go_ret
          exact ⟨bz, -1, rfl, .inl rfl⟩
        · have HJ2 : Hid (∀ j, j < k + 1 → (nth es j).key.size ≤ 1048576 ∧ (nth es j).val.size ≤ 1048576) := by
            intro j hj
            by_cases hjk : j = k
            · subst hjk; rw [← HY.out]; exact ⟨hz2, hz3⟩
            · exact HJ.out j (by omega)
          clear hz2 hz3 hb hb1
          go_wp2
          go_roundw
          case rel => exact ⟨k + 1, _, by omega, by go_num, rfl, hz0, by omega, HJ2, bz⟩
          case measure => simp [intOf]; omega
      · have hke : k = es.length := by omega
        subst hke
        go_wp2
        go_ret
        refine ⟨hb, x, rfl, .inr ⟨hx0, by omega, fun s hs => ?_⟩⟩
        obtain ⟨j, hj, rfl⟩ := List.getElem_of_mem hs
        rw [← nth_eq hj]
        exact HJ.out j hj
end Go.Proofs.YtbefmbjlogkmbaaGreat
