/- The contracts of the law's measure, copy and comparison of entries. -/
import Derived.Test.YthaobdknpgnapaaEntSpecOk
import Derived.Deep.RegionHeld3
namespace Go.Proofs.Ythaobdknpgnapaa
open Go.RowKit
theorem made_EV (n : Nat) : (madeCells #[.string ⟨#[]⟩, .string ⟨#[]⟩, .int .i64 0, .bool false] (n * 4)).toList = EV (List.replicate n zeroE) := by
  apply List.ext_getElem?
  intro j
  by_cases hj : j < n * 4
  · have h1 : j / 4 < n := by omega
    have h2 := EV_get (List.replicate n zeroE) (j / 4) (by rw [List.length_replicate]; exact h1) (j % 4) (by omega)
    rw [show j / 4 * 4 + j % 4 = j by omega] at h2
    rw [h2, nth_eq (by rw [List.length_replicate]; exact h1), List.getElem_replicate]
    have h3 : j % 4 = 0 ∨ j % 4 = 1 ∨ j % 4 = 2 ∨ j % 4 = 3 := by omega
    rcases h3 with h | h | h | h <;> simp [madeCells, hj, h, EC, zeroE]
  · rw [List.getElem?_eq_none (by rw [Array.length_toList, size_madeCells]; omega), List.getElem?_eq_none (by rw [EV_length, List.length_replicate]; omega)]
theorem EV_setAt : ∀ (es : List Ent) (k : Nat), k < es.length → ∀ (j : Nat), j < 4 → ∀ (u : Value) (e' : Ent), (EC (nth es k)).set j u = EC e' → (EV es).set (k * 4 + j) u = EV (es.set k e')
  | [], k, h, _, _, _, _, _ => by simp at h
  | a :: r, 0, _, j, hj, u, e', h => by
    rw [nth_zero] at h
    rw [EV_cons, Nat.zero_mul, Nat.zero_add, List.set_append_left _ _ (by simp [EC]; exact hj), h, List.set_cons_zero, EV_cons]
  | a :: r, k + 1, hk, j, hj, u, e', h => by
    rw [nth_succ] at h
    rw [EV_cons, List.set_append_right _ _ (by simp [EC]; omega), List.set_cons_succ, EV_cons, ← EV_setAt r k (by simpa using hk) j hj u e' h]
    congr 2
    simp [EC]; omega
theorem ownE_store {w : World} {base g cap n : Nat} {es : List Ent} (ho : w.ownsRow base 26 4 (.slice (some ⟨g, 0, none⟩) n cap) n (EV es)) {k j : Nat} (hk : k < es.length) (hj : j < 4) {u : Value} {e' : Ent} (h : (EC (nth es k)).set j u = EC e') :
    (w.setCell ⟨g, k * 4 + j, none⟩ u).ownsRow base 26 4 (.slice (some ⟨g, 0, none⟩) n cap) n (EV (es.set k e')) := by
  have := (ho.stored (k * 4 + j) u).1
  rwa [EV_setAt es k hk j hj u e' h] at this
theorem nth_set_same {es : List Ent} {k : Nat} (hk : k < es.length) (e : Ent) : nth (es.set k e) k = e := by
  rw [nth_eq (by rw [List.length_set]; exact hk), List.getElem_set_self]
/-- A whole entry stored. -/
theorem ownE_store4 {w : World} {base g cap n : Nat} {es : List Ent} (ho : w.ownsRow base 26 4 (.slice (some ⟨g, 0, none⟩) n cap) n (EV es)) {k : Nat} (hk : k < es.length) (x : Ent) :
    ((((w.setCell ⟨g, k * 4, none⟩ (.string x.key)).setCell ⟨g, k * 4 + 1, none⟩ (.string x.val)).setCell ⟨g, k * 4 + 2, none⟩ (.int .i64 x.seq)).setCell ⟨g, k * 4 + 3, none⟩ (.bool x.gone)).ownsRow base 26 4 (.slice (some ⟨g, 0, none⟩) n cap) n (EV (es.set k x)) := by
  have h0 := ownE_store ho hk (j := 0) (by omega) (u := .string x.key) (e' := { nth es k with key := x.key }) rfl
  have h1 := ownE_store h0 (k := k) (j := 1) (by rw [List.length_set]; exact hk) (by omega) (u := .string x.val) (e' := { nth es k with key := x.key, val := x.val }) (by rw [nth_set_same hk]; rfl)
  rw [List.set_set] at h1
  have h2 := ownE_store h1 (k := k) (j := 2) (by rw [List.length_set]; exact hk) (by omega) (u := .int .i64 x.seq) (e' := { nth es k with key := x.key, val := x.val, seq := x.seq }) (by rw [nth_set_same hk]; rfl)
  rw [List.set_set] at h2
  have h3 := ownE_store h2 (k := k) (j := 3) (by rw [List.length_set]; exact hk) (by omega) (u := .bool x.gone) (e' := x) (by rw [nth_set_same hk]; rfl)
  rw [List.set_set] at h3
  exact h3
theorem cpE_step (bs : List Ent) (z : Ent) (k : Nat) (h : k < bs.length) : (bs.take k ++ List.replicate (bs.length - k) z).set k (nth bs k) = bs.take (k + 1) ++ List.replicate (bs.length - (k + 1)) z := by
  have hl : (bs.take k).length = k := by rw [List.length_take]; omega
  rw [List.set_append_right _ _ (by omega), hl, Nat.sub_self]
  obtain ⟨m, hm⟩ : ∃ m, bs.length - k = m + 1 := ⟨bs.length - k - 1, by omega⟩
  have hm2 : bs.length - (k + 1) = m := by omega
  rw [hm, hm2, List.replicate_succ, List.set_cons_zero, List.take_succ_eq_append_getElem h, List.append_assoc, List.singleton_append, nth_eq h]
theorem cpE_len (bs : List Ent) (z : Ent) (k : Nat) (h : k ≤ bs.length) : (bs.take k ++ List.replicate (bs.length - k) z).length = bs.length := by
  rw [List.length_append, List.length_take, List.length_replicate]; omega
set_option maxHeartbeats 1000000 in
set_option maxRecDepth 100000 in
theorem toEntry_any (x : Ent) (w : World) :
    Calls Try.prog 75 #[.agg #[.string x.key, .string x.val, .int .i64 x.seq, .bool x.gone]] w fun e w' => e = .returned (.agg #[.string x.key, .string x.val, .int .i64 x.seq, .bool x.gone]) ∧ Below w.heap.size w w' := by
  go_enter Try.func75, Try.ntmps75
  go_wp2
  refine bodyPost_ret (v := .agg #[.string x.key, .string x.val, .int .i64 x.seq, .bool x.gone]) (by simp [results, Try.results75, go_sem]) rfl ⟨rfl, (below2 _ _ _).alloc (by simp; omega) _⟩
set_option maxHeartbeats 1000000 in
set_option maxRecDepth 100000 in
theorem toEnts_any (v : Value) (bs : List Ent) (w : World) (hr : RdE w v bs) (hs : bs.length ≤ 1073741824) :
    Calls Try.prog 33 #[v] w fun e w' => ∃ u, e = .returned u ∧ OwnE w' w.heap.size u bs ∧ Below w.heap.size w w' := by
  obtain ⟨i0, hi, hz0, hz1, hz2⟩ := info_parts Try.info26
  obtain ⟨a, cap, hv, hl, hm, _⟩ := id hr
  unfold maxLen at hm
  subst hv
  go_enter Try.func33, Try.ntmps33
  go_wp2_with (at_make; (refine wpList_make_full _ rfl _ _ 24 rfl w.heap.size 26 i0 _ 4 Try.underlying24 hi hz0 hz1 .i64 .i64 (bs.length : Int) (bs.length : Int) bs.length rfl rfl rfl rfl ?c1 ?c2 ?c3 ?_))
  case c1 => rw [hz2]; omega
  case c2 => unfold maxLen; omega
  case c3 => omega
  intro w1 ho1 hg1
  rw [made_EV] at ho1
  have hb1 : Below w.heap.size w w1 := (Below.refl _ _).grown hg1 (Nat.le_refl _) (fun k hk => by cases hk)
  clear hg1
  go_wp2
  go_loopw [4] (fun i wr => ∃ k : Nat, k ≤ bs.length ∧ i = .int .i64 k ∧ wr.ownsRow w.heap.size 26 4 (.slice (some ⟨w.heap.size, 0, none⟩) bs.length bs.length) bs.length (EV (bs.take k ++ List.replicate (bs.length - k) zeroE)) ∧ Below w.heap.size w wr) (fun i _ => bs.length - (intOf i).toNat)
  case atStart => exact ⟨0, Nat.zero_le _, rfl, by simpa using ho1, hb1⟩
  case round =>
    obtain ⟨k, hk, rfl, ho, hb⟩ := hrel
    clear ho1 hb1
    by_cases hlt : k < bs.length
    · obtain ⟨b, off, rfl, hc⟩ := (hr.below hb).at rfl k hlt
      obtain ⟨x, hx⟩ : ∃ x, x = nth bs k := ⟨_, rfl⟩
      rw [← hx] at hc
      have HX : Hid (x = nth bs k) := hx
      clear hx
      obtain ⟨c0, c1, c2, c3⟩ := hc
      go_wp2_with fail
      refine (toEntry_any x _).mono ?_
      rintro e w1 ⟨rfl, hb1⟩
      have ho1 := own_below ho hb1
      have hlen := cpE_len bs zeroE k hk
      obtain ⟨d0, d1, d2, d3⟩ := ownE_cell ho1 hlen.symm k hlt
      have f0 := ho1.frozenAt (k * 4)
      have f1 := ho1.frozenAt (k * 4 + 1)
      have f2 := ho1.frozenAt (k * 4 + 2)
      have f3 := ho1.frozenAt (k * 4 + 3)
      have R1 := ownE_store4 ho1 (k := k) (by rw [hlen]; exact hlt) x
      rw [HX.out, cpE_step bs zeroE k hlt, ← HX.out] at R1
      have R2 := hb.trans (hb1.mono hb.size)
      have H1 : Hid (World.ownsRow _ _ _ _ _ _ _) := R1
      clear ho ho1 hb hb1 R1
      go_wp2
      go_roundw
      case rel => exact ⟨k + 1, by omega, by go_num, H1.out, (((R2.setCell (Nat.le_refl _) _).setCell (Nat.le_refl _) _).setCell (Nat.le_refl _) _).setCell (Nat.le_refl _) _⟩
      case measure => simp [intOf]; omega
    · have hke : k = bs.length := by omega
      subst hke
      have H1 : OwnE wr w.heap.size (.slice (some ⟨w.heap.size, 0, none⟩) bs.length bs.length) bs := by unfold OwnE; simpa using ho
      clear ho
      go_wp2
      go_ret
      exact ⟨_, rfl, H1, hb⟩
theorem small_fits {x : Ent} (h : x.key.size ≤ 4503599627370496 ∧ x.val.size ≤ 4503599627370496) (h2 : -9223372036854775808 ≤ x.seq ∧ x.seq ≤ 9223372036854775807) : Fits x := ⟨h.1, h.2, h2.1, h2.2⟩
/-- What the measure of an entry leaves: a number below 0, or its texts are small. -/
def SzE (w : World) (x : Ent) (e : Ending) (w' : World) : Prop :=
  Below w.heap.size w w' ∧ ∃ z : Int, e = .returned (.int .i64 z) ∧ (z = -1 ∨ 0 ≤ z ∧ z ≤ 1048576 ∧ x.key.size ≤ 1048576 ∧ x.val.size ≤ 1048576)
set_option maxHeartbeats 1000000 in
set_option maxRecDepth 100000 in
theorem szEntry_any (x : Ent) (l : Int) (w : World) (hl0 : 0 ≤ l) (hl1 : l ≤ 1048576) (hk : x.key.size ≤ maxLen) (hv : x.val.size ≤ maxLen) :
    Calls Try.prog 74 #[.agg #[.string x.key, .string x.val, .int .i64 x.seq, .bool x.gone], .int .i64 l] w fun e w' => SzE w x e w' := by
  unfold maxLen at hk hv
  by_cases h1 : l - (x.key.size : Int) < 0
  · go_enter Try.func74, Try.ntmps74
    go_wp2
    go_ret
    exact ⟨below1 _ _, -1, rfl, .inl rfl⟩
  · by_cases h2 : l - (x.key.size : Int) - (x.val.size : Int) < 0
    · go_enter Try.func74, Try.ntmps74
      go_wp2
      go_ret
      exact ⟨below1 _ _, -1, rfl, .inl rfl⟩
    · go_enter Try.func74, Try.ntmps74
      go_wp2
      go_ret
      exact ⟨below1 _ _, _, rfl, .inr ⟨by omega, by omega, by omega, by omega⟩⟩
/-- What the measure of a slice of entries leaves. -/
def SzEs (w : World) (es : List Ent) (e : Ending) (w' : World) : Prop :=
  Below w.heap.size w w' ∧ ∃ z : Int, e = .returned (.int .i64 z) ∧ (z = -1 ∨ 0 ≤ z ∧ z ≤ 1048576 ∧ es.length ≤ 1048576 ∧ ∀ x ∈ es, x.key.size ≤ 1048576 ∧ x.val.size ≤ 1048576)
set_option maxHeartbeats 1000000 in
set_option maxRecDepth 100000 in
theorem szEnts_any (v : Value) (es : List Ent) (w : World) (hr : RdE w v es) (hsz : ∀ x ∈ es, x.key.size ≤ maxLen ∧ x.val.size ≤ maxLen) :
    Calls Try.prog 32 #[v, .int .i64 1048576] w fun e w' => SzEs w es e w' := by
  obtain ⟨a, cap, hv, hl, hm, _⟩ := id hr
  unfold maxLen at hm
  subst hv
  have HSZ : Hid (∀ x ∈ es, x.key.size ≤ maxLen ∧ x.val.size ≤ maxLen) := hsz
  clear hsz
  by_cases hbig : 1048576 < es.length
  · go_enter Try.func32, Try.ntmps32
    go_wp2
    go_ret
    exact ⟨Below.refl _ _, -1, rfl, .inl rfl⟩
  · go_enter Try.func32, Try.ntmps32
    go_wp2
    go_loopw [1, 5] (fun l i wr => ∃ (k : Nat) (x : Int), k ≤ es.length ∧ i = .int .i64 k ∧ l = .int .i64 x ∧ 0 ≤ x ∧ x ≤ 1048576 ∧ Hid (∀ j, j < k → (nth es j).key.size ≤ 1048576 ∧ (nth es j).val.size ≤ 1048576) ∧ Below w.heap.size w wr) (fun _ i _ => es.length - (intOf i).toNat)
    case atStart => exact ⟨0, _, Nat.zero_le _, rfl, rfl, by omega, by omega, (fun j h => absurd h (Nat.not_lt_zero _)), Below.refl _ _⟩
    case round =>
      obtain ⟨k, x, hk, rfl, rfl, hx0, hx1, HJ, hb⟩ := hrel
      by_cases hlt : k < es.length
      · obtain ⟨b, off, rfl, hc⟩ := (hr.below hb).at rfl k hlt
        have hsk := HSZ.out _ (List.getElem_mem hlt)
        rw [← nth_eq hlt] at hsk
        obtain ⟨y, hy⟩ : ∃ y, y = nth es k := ⟨_, rfl⟩
        rw [← hy] at hc hsk
        have HY : Hid (y = nth es k) := hy
        clear hy
        obtain ⟨c0, c1, c2, c3⟩ := hc
        go_wp2_with fail
        refine (szEntry_any y x _ hx0 hx1 hsk.1 hsk.2).mono ?_
        rintro e w1 ⟨hb1, z, rfl, hz⟩
        have bz := hb.trans (hb1.mono hb.size)
        rcases hz with hz | ⟨hz0, hz1, hz2, hz3⟩
        · subst hz
          go_wp2
          go_ret
          exact ⟨bz, -1, rfl, .inl rfl⟩
        · have HJ2 : Hid (∀ j, j < k + 1 → (nth es j).key.size ≤ 1048576 ∧ (nth es j).val.size ≤ 1048576) := by
            intro j hj
            by_cases hjk : j = k
            · subst hjk; rw [← HY.out]; exact ⟨hz2, hz3⟩
            · exact HJ.out j (by omega)
          clear hz2 hz3 hb hb1
          go_wp2
          go_roundw
          case rel => exact ⟨k + 1, _, by omega, by go_num, rfl, hz0, hz1, HJ2, bz⟩
          case measure => simp [intOf]; omega
      · have hke : k = es.length := by omega
        subst hke
        go_wp2
        go_ret
        refine ⟨hb, x, rfl, .inr ⟨hx0, hx1, by omega, fun s hs => ?_⟩⟩
        obtain ⟨j, hj, rfl⟩ := List.getElem_of_mem hs
        rw [← nth_eq hj]
        exact HJ.out j hj
set_option maxHeartbeats 1000000 in
set_option maxRecDepth 100000 in
theorem eqEntry_same (x : Ent) (w : World) :
    Calls Try.prog 34 #[.agg #[.string x.key, .string x.val, .int .i64 x.seq, .bool x.gone], .agg #[.string x.key, .string x.val, .int .i64 x.seq, .bool x.gone]] w fun e w' => e = .returned (.bool true) ∧ Below w.heap.size w w' := by
  have h1 : (x.seq != x.seq) = false := by simp
  have h2 : (x.gone != x.gone) = false := by simp
  go_enter Try.func34, Try.ntmps34
  go_wp2
  go_ret
  exact ⟨rfl, below2 _ _ _⟩
set_option maxHeartbeats 1000000 in
set_option maxRecDepth 100000 in
theorem eqEnts_same (va vb : Value) (es : List Ent) (w : World) (ha : RdE w va es) (hb : RdE w vb es) :
    Calls Try.prog 35 #[va, vb] w fun e w' => e = .returned (.bool true) ∧ Below w.heap.size w w' := by
  obtain ⟨aa, ca, hva, hla, hma, _⟩ := id ha
  obtain ⟨ab, cb, hvb, hlb, hmb, _⟩ := id hb
  subst hva
  subst hvb
  unfold maxLen at hma hmb
  have hne : ((es.length : Int) != (es.length : Int)) = false := by simp
  go_enter Try.func35, Try.ntmps35
  go_wp2
  go_loopw [5] (fun i wr => ∃ k : Nat, k ≤ es.length ∧ i = .int .i64 k ∧ Below w.heap.size w wr) (fun i _ => es.length - (intOf i).toNat)
  case atStart => exact ⟨0, Nat.zero_le _, rfl, Below.refl _ _⟩
  case round =>
    obtain ⟨k, hk, rfl, hbw⟩ := hrel
    by_cases hlt : k < es.length
    · obtain ⟨b1, o1, rfl, hc1⟩ := (ha.below hbw).at rfl k hlt
      obtain ⟨b2, o2, rfl, hc2⟩ := (hb.below hbw).at rfl k hlt
      obtain ⟨x, hx⟩ : ∃ x, x = nth es k := ⟨_, rfl⟩
      rw [← hx] at hc1 hc2
      clear hx
      go_wp2_with fail
      refine wp_region_noPanic ?_
      refine wp_region_held_drew (S := fun w' => EntAt w' b1 (o1 + k * 4) x ∧ EntAt w' b2 (o2 + k * 4) x) (by kernel_rfl) ⟨hc1, hc2⟩ (fun hH => ?_)
      refine tkA 0 17 hH ?_
      try simp only [Act.put, List.setIfInBounds_toArray, List.set_cons_zero, List.set_cons_succ]
      refine tkA 1 18 hH ?_
      try simp only [Act.put, List.setIfInBounds_toArray, List.set_cons_zero, List.set_cons_succ]
      refine tkA 2 19 hH ?_
      try simp only [Act.put, List.setIfInBounds_toArray, List.set_cons_zero, List.set_cons_succ]
      refine tkA 3 20 hH ?_
      try simp only [Act.put, List.setIfInBounds_toArray, List.set_cons_zero, List.set_cons_succ]
      refine tkA 4 21 hH ?_
      try simp only [Act.put, List.setIfInBounds_toArray, List.set_cons_zero, List.set_cons_succ]
      refine tkA 5 22 hH ?_
      try simp only [Act.put, List.setIfInBounds_toArray, List.set_cons_zero, List.set_cons_succ]
      refine tkA 6 23 hH ?_
      try simp only [Act.put, List.setIfInBounds_toArray, List.set_cons_zero, List.set_cons_succ]
      refine tkA 7 24 hH ?_
      try simp only [Act.put, List.setIfInBounds_toArray, List.set_cons_zero, List.set_cons_succ]
      refine wpAnyH_ready (rs := [8]) (by kernel_rfl) (by simp) ?_
      refine AllReadyH.cons rfl (fun K hK => ?_) AllReadyH.nil
      go_simp
      refine (eqEntry_same x _).mono ?_
      rintro e w1 ⟨rfl, hb1⟩
      refine hK.out _ _ ⟨hH.1.below hb1, hH.2.below hb1⟩ (fun hA => ?_)
      clear hK K
      try simp only [Act.put, List.setIfInBounds_toArray, List.set_cons_zero, List.set_cons_succ]
      refine tkA 9 26 hA ?_
      try simp only [Act.put, List.setIfInBounds_toArray, List.set_cons_zero, List.set_cons_succ]
      refine wpAnyH_done (by kernel_rfl) ?_ _
      refine NoPanic.normal ?_
      have bz := hbw.drew.trans (hb1.mono hbw.size)
      clear hH hA hc1 hc2
      go_wp2
      go_roundw
      case rel => exact ⟨k + 1, by omega, by go_num, bz⟩
      case measure => simp [intOf]; omega
    · go_wp2
      go_ret
      exact ⟨rfl, hbw⟩
end Go.Proofs.Ythaobdknpgnapaa
