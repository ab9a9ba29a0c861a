/- The contracts of the model's l7Exact and l7Newer. -/
import Derived.Test.YtpbbahpndgigjaaGreatDoorG23
namespace Go.Proofs.YtpbbahpndgigjaaGreatDoor
set_option maxHeartbeats 16000000
set_option maxRecDepth 100000
open Go.RowKit
def ExPost (w : World) (r : Bool) (e : Ending) (w' : World) : Prop := ∃ i : Int, e = .returned (.tuple #[.int .i64 i, .bool r]) ∧ Below w.heap.size w w'
theorem has_step {es : List Ent} {k : Nat} {x : Ent} (hk : k < es.length) (h : hasKS (es.take k) x = false) : hasKS (es.take (k + 1)) x = sameKS (nth es k) x := by
  unfold hasKS at h ⊢
  rw [List.take_succ_eq_append_getElem hk, List.any_append, h, nth_eq hk]
  simp
theorem has_true {es : List Ent} {k : Nat} {x : Ent} (hk : k < es.length) (h : sameKS (nth es k) x = true) : hasKS es x = true := by
  unfold hasKS
  rw [List.any_eq_true]
  exact ⟨nth es k, by rw [nth_eq hk]; exact List.getElem_mem hk, h⟩
theorem l7Exact_any (v : Value) (es : List Ent) (x : Ent) (w : World) (hr : RdE w v es) :
    Calls Tryz.prog 118 #[v, .agg #[.string x.key, .string x.val, .int .i64 x.seq, .bool x.gone]] w fun e w' => ExPost w (hasKS es x) e w' := by
  obtain ⟨a, cap, hv, hl, hm, _⟩ := id hr
  obtain ⟨nn, hnn⟩ : ∃ nn, nn = es.length := ⟨_, rfl⟩
  have HNN : Hid (nn = es.length) := hnn
  rw [← hnn] at hv hl
  subst hv
  unfold maxLen at hm
  have hbx := entAt_boxS w x 71
  have hb0 := below1 w (.cells #[.string x.key, .string x.val, .int .i64 x.seq, .bool x.gone] 71)
  clear hnn
  go_enter Tryz.func118, Tryz.ntmps118
  go_wp2
  go_loopw [6] (fun i wr => ∃ k : Nat, k ≤ nn ∧ i = .int .i64 k ∧ Hid (hasKS (es.take k) x = false) ∧ EntAt wr w.heap.size 0 x ∧ Below w.heap.size w wr) (fun i _ => nn - (intOf i).toNat)
  case atStart => exact ⟨0, Nat.zero_le _, rfl, by unfold Hid; simp [hasKS], hbx, hb0⟩
  case round =>
    obtain ⟨k, hk, rfl, HH, hx, hb⟩ := hrel
    clear hbx hb0
    by_cases hlt : k < nn
    · obtain ⟨b, off, rfl, hc⟩ := (hr.below hb).at HNN.out k (by rw [← HNN.out]; exact hlt)
      obtain ⟨y, hy⟩ : ∃ y, y = nth es k := ⟨_, rfl⟩
      rw [← hy] at hc
      have hstep := has_step (show k < es.length by rw [← HNN.out]; exact hlt) HH.out
      have htrue := fun h => has_true (x := x) (show k < es.length by rw [← HNN.out]; exact hlt) h
      rw [← hy] at hstep htrue
      have hkb := beq_kEq y.key x.key
      have hkc : k < cap := by omega
      clear hy
      cases hke : kEq y.key x.key with
      | false =>
        have HH2 : Hid (hasKS (es.take (k + 1)) x = false) := by unfold Hid; rw [hstep]; simp [sameKS, hke]
        rw [hke] at hkb
        clear hstep htrue
        go_wp2_with fail
        refine wp_region_noPanic ?_
        refine wp_region_held_drew (S := fun W => EntAt W b (off + k * 4) y ∧ EntAt W w.heap.size 0 x) (by kernel_rfl) ⟨hc, hx⟩ (fun hH => ?_)
        refine tkA 0 13 hH ?_; try simp only [Act.put, sA, sZ, sS]
        refine tkA 1 14 hH ?_; try simp only [Act.put, sA, sZ, sS]
        refine tkA 2 15 hH ?_; try simp only [Act.put, sA, sZ, sS]
        refine tkA 3 16 hH ?_; try simp only [Act.put, sA, sZ, sS]
        refine tkA 4 17 hH ?_; try simp only [Act.put, sA, sZ, sS]
        refine tkA 5 18 hH ?_; try simp only [Act.put, sA, sZ, sS]
        refine tkA 6 19 hH ?_; try simp only [Act.put, sA, sZ, sS]
        refine tkA 7 20 hH ?_; try simp only [Act.put, sA, sZ, sS]
        refine tkA 8 21 hH ?_; try simp only [Act.put, sA, sZ, sS]
        refine tkS 9 22 hH ?_; try simp only [Act.put, sA, sZ, sS]
        refine tkS 10 23 hH ?_; try simp only [Act.put, sA, sZ, sS]
        refine tkS 11 24 hH ?_; try simp only [Act.put, sA, sZ, sS]
        refine tkS 12 25 hH ?_; try simp only [Act.put, sA, sZ, sS]
        refine tkS 13 26 hH ?_; try simp only [Act.put, sA, sZ, sS]
        refine tkS 14 27 hH ?_; try simp only [Act.put, sA, sZ, sS]
        refine tkS 15 28 hH ?_; try simp only [Act.put, sA, sZ, sS]
        refine tkS 16 29 hH ?_; try simp only [Act.put, sA, sZ, sS]
        refine tkA 17 30 hH ?_; try simp only [Act.put, sA, sZ, sS]
        refine wpAnyH_done (by kernel_rfl) ?_ _
        refine NoPanic.normal ?_
        go_wp2
        go_roundw
        case rel => exact ⟨k + 1, by omega, by go_num, HH2, hx, hb.drew⟩
        case measure => simp [intOf]; omega
      | true =>
        rw [hke] at hkb
        obtain ⟨s, hs⟩ : ∃ s : Bool, (y.seq == x.seq) = s := ⟨_, rfl⟩
        have hsm : sameKS y x = s := by unfold sameKS; rw [hke, Bool.true_and, ← hs]; rfl
        cases s with
        | true =>
          have RES : Hid (hasKS es x = true) := htrue hsm
          clear hstep htrue hsm
          go_wp2_with fail
          refine wp_region_noPanic ?_
          refine wp_region_held_drew (S := fun W => EntAt W b (off + k * 4) y ∧ EntAt W w.heap.size 0 x) (by kernel_rfl) ⟨hc, hx⟩ (fun hH => ?_)
          refine tkA 0 13 hH ?_; try simp only [Act.put, sA, sZ, sS]
          refine tkA 1 14 hH ?_; try simp only [Act.put, sA, sZ, sS]
          refine tkA 2 15 hH ?_; try simp only [Act.put, sA, sZ, sS]
          refine tkA 3 16 hH ?_; try simp only [Act.put, sA, sZ, sS]
          refine tkA 4 17 hH ?_; try simp only [Act.put, sA, sZ, sS]
          refine tkA 5 18 hH ?_; try simp only [Act.put, sA, sZ, sS]
          refine tkA 6 19 hH ?_; try simp only [Act.put, sA, sZ, sS]
          refine tkA 7 20 hH ?_; try simp only [Act.put, sA, sZ, sS]
          refine tkA 8 21 hH ?_; try simp only [Act.put, sA, sZ, sS]
          refine tkA 9 22 hH ?_; try simp only [Act.put, sA, sZ, sS]
          refine tkA 10 23 hH ?_; try simp only [Act.put, sA, sZ, sS]
          refine tkA 11 24 hH ?_; try simp only [Act.put, sA, sZ, sS]
          refine tkA 12 25 hH ?_; try simp only [Act.put, sA, sZ, sS]
          refine tkA 13 26 hH ?_; try simp only [Act.put, sA, sZ, sS]
          refine tkA 14 27 hH ?_; try simp only [Act.put, sA, sZ, sS]
          refine tkA 15 28 hH ?_; try simp only [Act.put, sA, sZ, sS]
          refine tkA 16 29 hH ?_; try simp only [Act.put, sA, sZ, sS]
          refine tkA 17 30 hH ?_; try simp only [Act.put, sA, sZ, sS]
          refine wpAnyH_done (by kernel_rfl) ?_ _
          refine NoPanic.normal ?_
          go_wp2
          go_ret2
          exact ⟨(k : Int), by rw [RES.out]; rfl, hb.drew⟩
        | false =>
          have HH2 : Hid (hasKS (es.take (k + 1)) x = false) := by unfold Hid; rw [hstep]; exact hsm
          clear hstep htrue hsm
          go_wp2_with fail
          refine wp_region_noPanic ?_
          refine wp_region_held_drew (S := fun W => EntAt W b (off + k * 4) y ∧ EntAt W w.heap.size 0 x) (by kernel_rfl) ⟨hc, hx⟩ (fun hH => ?_)
          refine tkA 0 13 hH ?_; try simp only [Act.put, sA, sZ, sS]
          refine tkA 1 14 hH ?_; try simp only [Act.put, sA, sZ, sS]
          refine tkA 2 15 hH ?_; try simp only [Act.put, sA, sZ, sS]
          refine tkA 3 16 hH ?_; try simp only [Act.put, sA, sZ, sS]
          refine tkA 4 17 hH ?_; try simp only [Act.put, sA, sZ, sS]
          refine tkA 5 18 hH ?_; try simp only [Act.put, sA, sZ, sS]
          refine tkA 6 19 hH ?_; try simp only [Act.put, sA, sZ, sS]
          refine tkA 7 20 hH ?_; try simp only [Act.put, sA, sZ, sS]
          refine tkA 8 21 hH ?_; try simp only [Act.put, sA, sZ, sS]
          refine tkA 9 22 hH ?_; try simp only [Act.put, sA, sZ, sS]
          refine tkA 10 23 hH ?_; try simp only [Act.put, sA, sZ, sS]
          refine tkA 11 24 hH ?_; try simp only [Act.put, sA, sZ, sS]
          refine tkA 12 25 hH ?_; try simp only [Act.put, sA, sZ, sS]
          refine tkA 13 26 hH ?_; try simp only [Act.put, sA, sZ, sS]
          refine tkA 14 27 hH ?_; try simp only [Act.put, sA, sZ, sS]
          refine tkA 15 28 hH ?_; try simp only [Act.put, sA, sZ, sS]
          refine tkA 16 29 hH ?_; try simp only [Act.put, sA, sZ, sS]
          refine tkA 17 30 hH ?_; try simp only [Act.put, sA, sZ, sS]
          refine wpAnyH_done (by kernel_rfl) ?_ _
          refine NoPanic.normal ?_
          go_wp2
          go_roundw
          case rel => exact ⟨k + 1, by omega, by go_num, HH2, hx, hb.drew⟩
          case measure => simp [intOf]; omega
    · skip
      have RES : Hid (hasKS es x = false) := by have := HH.out; rw [show k = nn by omega, HNN.out, List.take_length] at this; exact this
      go_wp2
      go_ret2
      exact ⟨0, by rw [RES.out]; rfl, hb⟩
theorem newer_no {mem all : List Ent} {i : Nat} (hi : i + 1 < all.length) (h : newerAt mem all i = false) : newerL mem all = false := by
  unfold newerL
  rw [List.all_eq_false]
  exact ⟨i, List.mem_range.2 (by omega), by rw [h]; simp⟩
theorem newer_yes {mem all : List Ent} (h : ∀ i, i + 1 < all.length → newerAt mem all i = true) : newerL mem all = true := by
  unfold newerL
  rw [List.all_eq_true]
  intro i hi
  rw [List.mem_range] at hi
  exact h i (by omega)
theorem l7Newer_any (X : TrX) (va : Value) (all : List Ent) (w : World) (hx : RdTr w X) (hr : RdE w va all) :
    Calls Tryz.prog 110 #[.agg #[X.vm, X.vy, X.vo, .int .i64 X.seq, X.vs], va] w fun e w' => e = .returned (.bool (newerL X.mem all)) ∧ Below w.heap.size w w' := by
  obtain ⟨a, cap, hv, hl, hm, _⟩ := id hr
  obtain ⟨nn, hnn⟩ : ∃ nn, nn = all.length := ⟨_, rfl⟩
  have HNN : Hid (nn = all.length) := hnn
  rw [← hnn] at hv hl
  subst hv
  unfold maxLen at hm
  have hbx := treAt_new w X 49
  have hb0 := below1 w (.cells #[X.vm, X.vy, X.vo, .int .i64 X.seq, X.vs] 49)
  clear hnn
  go_enter Tryz.func110, Tryz.ntmps110
  go_wp2
  go_loopw [5] (fun i wr => ∃ k : Nat, k ≤ nn - 1 ∧ i = .int .i64 k ∧ Hid (∀ j, j < k → newerAt X.mem all j = true) ∧ TreAt wr w.heap.size X ∧ Below w.heap.size w wr) (fun i _ => nn - (intOf i).toNat)
  case atStart => exact ⟨0, Nat.zero_le _, rfl, (fun j h => by omega), hbx, hb0⟩
  case round =>
    obtain ⟨k, hk, rfl, HH, ht, hb⟩ := hrel
    clear hbx hb0
    by_cases hlt : k + 1 < nn
    · have hlt2 : (k : Int) + 1 < (nn : Int) := by omega
      have hrw := hr.below hb
      obtain ⟨b, off, rfl, hc1⟩ := hrw.at HNN.out (k + 1) (by rw [← HNN.out]; exact hlt)
      obtain ⟨b', off', hbo, hc0⟩ := hrw.at HNN.out k (by rw [← HNN.out]; omega)
      cases hbo
      obtain ⟨y, hy⟩ : ∃ y, y = nth all (k + 1) := ⟨_, rfl⟩
      obtain ⟨z, hz⟩ : ∃ z, z = nth all k := ⟨_, rfl⟩
      rw [← hy] at hc1
      rw [← hz] at hc0
      have hat : newerAt X.mem all k = !(kEq z.key y.key && hasKS X.mem y && !hasKS X.mem z) := by unfold newerAt; rw [← hy, ← hz]
      have HCY : Hid (∀ W, RdE W X.vm X.mem → Calls Tryz.prog 118 #[X.vm, .agg #[.string y.key, .string y.val, .int .i64 y.seq, .bool y.gone]] W fun e w' => ExPost W (hasKS X.mem y) e w') := fun W h => l7Exact_any _ _ y W h
      have HCZ : Hid (∀ W, RdE W X.vm X.mem → Calls Tryz.prog 118 #[X.vm, .agg #[.string z.key, .string z.val, .int .i64 z.seq, .bool z.gone]] W fun e w' => ExPost W (hasKS X.mem z) e w') := fun W h => l7Exact_any _ _ z W h
      have hkb := beq_kEq z.key y.key
      generalize hasKS X.mem y = hY at hat HCY
      generalize hasKS X.mem z = hZ at hat HCZ
      have hkc : k < cap := by omega
      have hkc1 : k + 1 < cap := by omega
      have hwk : IntKind.i64.wrap ((k : Int) + 1) = (k : Int) + 1 := by rw [IntKind.wrap_i64]; omega
      have h0k : (0 : Int) ≤ (k : Int) + 1 := by omega
      have hkn : k < nn := by omega
      have HAT : Hid (newerAt X.mem all k = !(kEq z.key y.key && hY && !hZ)) := hat
      generalize kEq z.key y.key = kE at HAT hkb
      clear hy hz hrw hat
      go_wp2_with fail
      refine wp_region_noPanic ?_
      refine wp_region_held_drew (S := fun W => W.cell? ⟨w.heap.size, 0, none⟩ = some X.vm ∧ EntAt W b (off + (k + 1) * 4) y) (by kernel_rfl) ⟨ht.1, hc1⟩ (fun hH => ?_)
      refine tkA 0 18 hH ?_; try simp only [Act.put, sA, sZ, sS]
      refine tkA 1 19 hH ?_; try simp only [Act.put, sA, sZ, sS]
      refine tkA 2 20 hH ?_; try simp only [Act.put, sA, sZ, sS]
      refine tkA 3 21 hH ?_; try simp only [Act.put, sA, sZ, sS]
      refine tkA 4 22 hH ?_; try simp only [Act.put, sA, sZ, sS]
      refine tkA 5 23 hH ?_; try simp only [Act.put, sA, sZ, sS]
      refine tkA 6 24 hH ?_; try simp only [Act.put, sA, sZ, sS]
      refine wpAnyH_ready (rs := [7]) (by kernel_rfl) (by simp) ?_
      refine AllReadyH.cons rfl (fun K hK => ?_) AllReadyH.nil
      go_simp
      refine (HCY.out _ (hx.mem.below hb.drew)).mono ?_
      rintro e w2 ⟨i2, rfl, hb2⟩
      refine hK.out _ _ ⟨(hb2.cell (World.block_lt_of_cell? _ _ hH.1)).trans hH.1, hH.2.below hb2⟩ (fun hB => ?_)
      clear hK K
      try simp only [Act.put, sA, sZ, sS]
      refine tkA 8 17 hB ?_; try simp only [Act.put, sA, sZ, sS]
      refine tkA 9 26 hB ?_; try simp only [Act.put, sA, sZ, sS]
      refine tkA 10 27 hB ?_; try simp only [Act.put, sA, sZ, sS]
      refine tkA 11 6 hB ?_; try simp only [Act.put, sA, sZ, sS]
      refine tkA 12 7 hB ?_; try simp only [Act.put, sA, sZ, sS]
      refine wpAnyH_done (by kernel_rfl) ?_ _
      refine NoPanic.normal ?_
      have bd : Below wr.heap.size wr w2 := ((Below.refl wr.heap.size wr).drew).trans hb2
      have ht2 := ht.below bd
      have hd0 := hc0.below bd
      have hd1 := hc1.below bd
      have b2 := hb.trans (bd.mono hb.size)
      clear hB hH hb2 bd ht hc0 hc1 hb
      go_wp2_with fail
      refine wp_region_noPanic ?_
      refine wp_region_held_drew (S := fun W => W.cell? ⟨w.heap.size, 0, none⟩ = some X.vm ∧ EntAt W b (off + k * 4) z) (by kernel_rfl) ⟨ht2.1, hd0⟩ (fun hH => ?_)
      refine tkA 0 29 hH ?_; try simp only [Act.put, sA, sZ, sS]
      refine tkA 1 30 hH ?_; try simp only [Act.put, sA, sZ, sS]
      refine tkA 2 31 hH ?_; try simp only [Act.put, sA, sZ, sS]
      refine tkA 3 32 hH ?_; try simp only [Act.put, sA, sZ, sS]
      refine tkA 4 33 hH ?_; try simp only [Act.put, sA, sZ, sS]
      refine tkA 5 34 hH ?_; try simp only [Act.put, sA, sZ, sS]
      refine wpAnyH_ready (rs := [6]) (by kernel_rfl) (by simp) ?_
      refine AllReadyH.cons rfl (fun K hK => ?_) AllReadyH.nil
      go_simp
      refine (HCZ.out _ (hx.mem.below b2.drew)).mono ?_
      rintro e w3 ⟨i3, rfl, hb3⟩
      refine hK.out _ _ ⟨(hb3.cell (World.block_lt_of_cell? _ _ hH.1)).trans hH.1, hH.2.below hb3⟩ (fun hB => ?_)
      clear hK K
      try simp only [Act.put, sA, sZ, sS]
      refine tkA 7 28 hB ?_; try simp only [Act.put, sA, sZ, sS]
      refine tkA 8 36 hB ?_; try simp only [Act.put, sA, sZ, sS]
      refine tkA 9 37 hB ?_; try simp only [Act.put, sA, sZ, sS]
      refine tkA 10 8 hB ?_; try simp only [Act.put, sA, sZ, sS]
      refine tkA 11 9 hB ?_; try simp only [Act.put, sA, sZ, sS]
      refine wpAnyH_done (by kernel_rfl) ?_ _
      refine NoPanic.normal ?_
      have bd : Below w2.heap.size w2 w3 := ((Below.refl w2.heap.size w2).drew).trans hb3
      have ht3 := ht2.below bd
      have he0 := hd0.below bd
      have he1 := hd1.below bd
      have b3 := b2.trans (bd.mono b2.size)
      clear hB hH hb3 bd ht2 hd0 hd1 b2 HCY HCZ
      cases kE with
      | false =>
        have HH2 : Hid (∀ j, j < k + 1 → newerAt X.mem all j = true) := fun j hj => by
          by_cases hjk : j = k
          · rw [hjk, HAT.out]; rfl
          · exact HH.out j (by omega)
        go_wp2_with fail
        refine wp_region_noPanic ?_
        refine wp_region_held_drew (S := fun W => EntAt W b (off + k * 4) z ∧ EntAt W b (off + (k + 1) * 4) y) (by kernel_rfl) ⟨he0, he1⟩ (fun hH => ?_)
        refine tkA 0 38 hH ?_; try simp only [Act.put, sA, sZ, sS]
        refine tkA 1 39 hH ?_; try simp only [Act.put, sA, sZ, sS]
        refine tkA 2 40 hH ?_; try simp only [Act.put, sA, sZ, sS]
        refine tkA 3 41 hH ?_; try simp only [Act.put, sA, sZ, sS]
        refine tkA 4 42 hH ?_; try simp only [Act.put, sA, sZ, sS]
        refine tkA 5 43 hH ?_; try simp only [Act.put, sA, sZ, sS]
        refine tkA 6 44 hH ?_; try simp only [Act.put, sA, sZ, sS]
        refine tkA 7 45 hH ?_; try simp only [Act.put, sA, sZ, sS]
        refine tkA 8 46 hH ?_; try simp only [Act.put, sA, sZ, sS]
        refine tkA 9 47 hH ?_; try simp only [Act.put, sA, sZ, sS]
        refine tkA 10 48 hH ?_; try simp only [Act.put, sA, sZ, sS]
        refine tkA 11 49 hH ?_; try simp only [Act.put, sA, sZ, sS]
        refine tkA 12 50 hH ?_; try simp only [Act.put, sA, sZ, sS]
        refine tkS 13 51 hH ?_; try simp only [Act.put, sA, sZ, sS]
        refine tkA 14 52 hH ?_; try simp only [Act.put, sA, sZ, sS]
        refine tkA 15 53 hH ?_; try simp only [Act.put, sA, sZ, sS]
        refine tkS 16 54 hH ?_; try simp only [Act.put, sA, sZ, sS]
        refine tkS 17 55 hH ?_; try simp only [Act.put, sA, sZ, sS]
        refine tkA 18 56 hH ?_; try simp only [Act.put, sA, sZ, sS]
        refine wpAnyH_done (by kernel_rfl) ?_ _
        refine NoPanic.normal ?_
        go_wp2
        go_roundw
        case rel => exact ⟨k + 1, by omega, by go_num, HH2, ht3, b3.drew⟩
        case measure => simp [intOf]; omega
      | true =>
        cases hY with
        | false =>
          have HH2 : Hid (∀ j, j < k + 1 → newerAt X.mem all j = true) := fun j hj => by
            by_cases hjk : j = k
            · rw [hjk, HAT.out]; rfl
            · exact HH.out j (by omega)
          go_wp2_with fail
          refine wp_region_noPanic ?_
          refine wp_region_held_drew (S := fun W => EntAt W b (off + k * 4) z ∧ EntAt W b (off + (k + 1) * 4) y) (by kernel_rfl) ⟨he0, he1⟩ (fun hH => ?_)
          refine tkA 0 38 hH ?_; try simp only [Act.put, sA, sZ, sS]
          refine tkA 1 39 hH ?_; try simp only [Act.put, sA, sZ, sS]
          refine tkA 2 40 hH ?_; try simp only [Act.put, sA, sZ, sS]
          refine tkA 3 41 hH ?_; try simp only [Act.put, sA, sZ, sS]
          refine tkA 4 42 hH ?_; try simp only [Act.put, sA, sZ, sS]
          refine tkA 5 43 hH ?_; try simp only [Act.put, sA, sZ, sS]
          refine tkA 6 44 hH ?_; try simp only [Act.put, sA, sZ, sS]
          refine tkA 7 45 hH ?_; try simp only [Act.put, sA, sZ, sS]
          refine tkA 8 46 hH ?_; try simp only [Act.put, sA, sZ, sS]
          refine tkA 9 47 hH ?_; try simp only [Act.put, sA, sZ, sS]
          refine tkA 10 48 hH ?_; try simp only [Act.put, sA, sZ, sS]
          refine tkA 11 49 hH ?_; try simp only [Act.put, sA, sZ, sS]
          refine tkA 12 50 hH ?_; try simp only [Act.put, sA, sZ, sS]
          refine tkA 13 51 hH ?_; try simp only [Act.put, sA, sZ, sS]
          refine tkA 14 52 hH ?_; try simp only [Act.put, sA, sZ, sS]
          refine tkA 15 53 hH ?_; try simp only [Act.put, sA, sZ, sS]
          refine tkS 16 54 hH ?_; try simp only [Act.put, sA, sZ, sS]
          refine tkS 17 55 hH ?_; try simp only [Act.put, sA, sZ, sS]
          refine tkA 18 56 hH ?_; try simp only [Act.put, sA, sZ, sS]
          refine wpAnyH_done (by kernel_rfl) ?_ _
          refine NoPanic.normal ?_
          go_wp2
          go_roundw
          case rel => exact ⟨k + 1, by omega, by go_num, HH2, ht3, b3.drew⟩
          case measure => simp [intOf]; omega
        | true =>
          cases hZ with
          | true =>
            have HH2 : Hid (∀ j, j < k + 1 → newerAt X.mem all j = true) := fun j hj => by
              by_cases hjk : j = k
              · rw [hjk, HAT.out]; rfl
              · exact HH.out j (by omega)
            go_wp2_with fail
            refine wp_region_noPanic ?_
            refine wp_region_held_drew (S := fun W => EntAt W b (off + k * 4) z ∧ EntAt W b (off + (k + 1) * 4) y) (by kernel_rfl) ⟨he0, he1⟩ (fun hH => ?_)
            refine tkA 0 38 hH ?_; try simp only [Act.put, sA, sZ, sS]
            refine tkA 1 39 hH ?_; try simp only [Act.put, sA, sZ, sS]
            refine tkA 2 40 hH ?_; try simp only [Act.put, sA, sZ, sS]
            refine tkA 3 41 hH ?_; try simp only [Act.put, sA, sZ, sS]
            refine tkA 4 42 hH ?_; try simp only [Act.put, sA, sZ, sS]
            refine tkA 5 43 hH ?_; try simp only [Act.put, sA, sZ, sS]
            refine tkA 6 44 hH ?_; try simp only [Act.put, sA, sZ, sS]
            refine tkA 7 45 hH ?_; try simp only [Act.put, sA, sZ, sS]
            refine tkA 8 46 hH ?_; try simp only [Act.put, sA, sZ, sS]
            refine tkA 9 47 hH ?_; try simp only [Act.put, sA, sZ, sS]
            refine tkA 10 48 hH ?_; try simp only [Act.put, sA, sZ, sS]
            refine tkA 11 49 hH ?_; try simp only [Act.put, sA, sZ, sS]
            refine tkA 12 50 hH ?_; try simp only [Act.put, sA, sZ, sS]
            refine tkA 13 51 hH ?_; try simp only [Act.put, sA, sZ, sS]
            refine tkA 14 52 hH ?_; try simp only [Act.put, sA, sZ, sS]
            refine tkA 15 53 hH ?_; try simp only [Act.put, sA, sZ, sS]
            refine tkA 16 54 hH ?_; try simp only [Act.put, sA, sZ, sS]
            refine tkA 17 55 hH ?_; try simp only [Act.put, sA, sZ, sS]
            refine tkA 18 56 hH ?_; try simp only [Act.put, sA, sZ, sS]
            refine wpAnyH_done (by kernel_rfl) ?_ _
            refine NoPanic.normal ?_
            go_wp2
            go_roundw
            case rel => exact ⟨k + 1, by omega, by go_num, HH2, ht3, b3.drew⟩
            case measure => simp [intOf]; omega
          | false =>
            have RES : Hid (newerL X.mem all = false) := newer_no (by rw [← HNN.out]; exact hlt) (by rw [HAT.out]; rfl)
            go_wp2_with fail
            refine wp_region_noPanic ?_
            refine wp_region_held_drew (S := fun W => EntAt W b (off + k * 4) z ∧ EntAt W b (off + (k + 1) * 4) y) (by kernel_rfl) ⟨he0, he1⟩ (fun hH => ?_)
            refine tkA 0 38 hH ?_; try simp only [Act.put, sA, sZ, sS]
            refine tkA 1 39 hH ?_; try simp only [Act.put, sA, sZ, sS]
            refine tkA 2 40 hH ?_; try simp only [Act.put, sA, sZ, sS]
            refine tkA 3 41 hH ?_; try simp only [Act.put, sA, sZ, sS]
            refine tkA 4 42 hH ?_; try simp only [Act.put, sA, sZ, sS]
            refine tkA 5 43 hH ?_; try simp only [Act.put, sA, sZ, sS]
            refine tkA 6 44 hH ?_; try simp only [Act.put, sA, sZ, sS]
            refine tkA 7 45 hH ?_; try simp only [Act.put, sA, sZ, sS]
            refine tkA 8 46 hH ?_; try simp only [Act.put, sA, sZ, sS]
            refine tkA 9 47 hH ?_; try simp only [Act.put, sA, sZ, sS]
            refine tkA 10 48 hH ?_; try simp only [Act.put, sA, sZ, sS]
            refine tkA 11 49 hH ?_; try simp only [Act.put, sA, sZ, sS]
            refine tkA 12 50 hH ?_; try simp only [Act.put, sA, sZ, sS]
            refine tkA 13 51 hH ?_; try simp only [Act.put, sA, sZ, sS]
            refine tkA 14 52 hH ?_; try simp only [Act.put, sA, sZ, sS]
            refine tkA 15 53 hH ?_; try simp only [Act.put, sA, sZ, sS]
            refine tkA 16 54 hH ?_; try simp only [Act.put, sA, sZ, sS]
            refine tkA 17 55 hH ?_; try simp only [Act.put, sA, sZ, sS]
            refine tkA 18 56 hH ?_; try simp only [Act.put, sA, sZ, sS]
            refine wpAnyH_done (by kernel_rfl) ?_ _
            refine NoPanic.normal ?_
            go_wp2
            go_ret
            exact ⟨ret_bool RES.out.symm, b3.drew⟩
    · skip
      have hlt2 : ¬ (k : Int) + 1 < (nn : Int) := by omega
      have hwk : IntKind.i64.wrap ((k : Int) + 1) = (k : Int) + 1 := by rw [IntKind.wrap_i64]; omega
      have RES : Hid (newerL X.mem all = true) := newer_yes (fun i hi => HH.out i (by rw [← HNN.out] at hi; omega))
      go_wp2
      go_ret
      exact ⟨ret_bool RES.out.symm, hb⟩
end Go.Proofs.YtpbbahpndgigjaaGreatDoor
