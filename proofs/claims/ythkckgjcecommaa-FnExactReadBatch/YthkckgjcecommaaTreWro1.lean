/- The contracts of the model's look at a batch and of the program's entry of a write. -/
import Derived.Test.YthkckgjcecommaaWriCp
import Derived.Test.YthkckgjcecommaaEntOrd
namespace Go.Proofs.Ythkckgjcecommaa
open Go.RowKit
/-- The texts of a write are such as a program can hold. -/
def FitsW (x : Wri) : Prop := x.key.size ≤ 4503599627370496 ∧ x.val.size ≤ 4503599627370496
def batchOk (xs : List Wri) : Bool := decide (xs.length ≤ 20) && xs.all wriOk
def BoxW (w : World) (b : Nat) (x : Wri) : Prop := w.cell? ⟨b, 0, none⟩ = some (.string x.key) ∧ w.cell? ⟨b, 1, none⟩ = some (.string x.val) ∧ w.cell? ⟨b, 2, none⟩ = some (.bool x.gone)
theorem boxW_new (w : World) (x : Wri) (t : TypeId) : BoxW (w.alloc (.cells #[.string x.key, .string x.val, .bool x.gone] t)) w.heap.size x := by
  refine ⟨?_, ?_, ?_⟩ <;> simp [World.cell?_alloc_at]
theorem batch_more {xs : List Wri} {k : Nat} (hk : k < xs.length) (h : (xs.take k).all wriOk = true) (hx : wriOk (nthW xs k) = true) : (xs.take (k + 1)).all wriOk = true := by
  rw [List.take_succ_eq_append_getElem hk, List.all_append, h, ← nthW_eq hk]
  simp [hx]
theorem batch_not {xs : List Wri} {k : Nat} (hk : k < xs.length) (hx : wriOk (nthW xs k) = false) : xs.all wriOk = false := by
  rw [Bool.eq_false_iff]
  intro h
  rw [List.all_eq_true] at h
  have := h (nthW xs k) (by rw [nthW_eq hk]; exact List.getElem_mem hk)
  rw [hx] at this
  cases this
set_option maxHeartbeats 2000000 in
set_option maxRecDepth 100000 in
theorem l7Batch_any (v : Value) (xs : List Wri) (w : World) (hr : RdW w v xs) (hf : ∀ x ∈ xs, FitsW x) :
    Calls Try.prog 15 #[v] w fun e w' => e = .returned (.bool (batchOk xs)) ∧ Below w.heap.size w w' := by
  obtain ⟨a, cap, hv, hl, hm, _⟩ := id hr
  unfold maxLen at hm
  obtain ⟨n, hn⟩ : ∃ n, n = xs.length := ⟨_, rfl⟩
  rw [← hn] at hv hl
  have HN : Hid (n = xs.length) := hn
  have HF : Hid (∀ x ∈ xs, FitsW x) := hf
  subst hv
  clear hn hf
  by_cases hbig : 20 < n
  · have END : Hid (batchOk xs = false) := by unfold Hid batchOk; rw [decide_eq_false (by rw [← HN.out]; omega)]; rfl
    go_enter Try.func15, Try.ntmps15
    go_wp2
    go_ret
    exact ⟨by rw [END.out]; rfl, Below.refl _ _⟩
  · have HB : Hid (∀ b, xs.all wriOk = b → batchOk xs = b) := fun b h => by unfold batchOk; rw [decide_eq_true (by rw [← HN.out]; omega), h]; rfl
    go_enter Try.func15, Try.ntmps15
    go_wp2
    go_loopw [3] (fun i wr => ∃ k : Nat, k ≤ n ∧ i = .int .i64 k ∧ Hid ((xs.take k).all wriOk = true) ∧ Below w.heap.size w wr) (fun i _ => n - (intOf i).toNat)
    case atStart => exact ⟨0, Nat.zero_le _, rfl, rfl, Below.refl _ _⟩
    case round =>
      obtain ⟨k, hk, rfl, HA, hb⟩ := hrel
      by_cases hlt : k < n
      · have hkl : k < xs.length := by rw [← HN.out]; exact hlt
        have hkc : k < cap := by omega
        obtain ⟨b, off, rfl, hc⟩ := (hr.below hb).at HN.out k hkl
        have hfx := HF.out (nthW xs k) (by rw [nthW_eq hkl]; exact List.getElem_mem hkl)
        have HM : Hid (wriOk (nthW xs k) = true → (xs.take (k + 1)).all wriOk = true) := fun h => batch_more hkl HA.out h
        have HNO : Hid (wriOk (nthW xs k) = false → batchOk xs = false) := fun h => HB.out false (batch_not hkl h)
        generalize nthW xs k = x at hc hfx HM HNO
        obtain ⟨c0, c1, c2⟩ := hc
        have HE : Hid (∀ W, Calls Try.prog 25 #[.agg #[.string x.key, .string x.val, .int .i64 1, .bool x.gone]] W fun e w' => e = .returned (.bool (wriOk x)) ∧ Below W.heap.size W w') := fun W => l3Entry_any (wriE x 1) W ⟨hfx.1, hfx.2, by show (-9223372036854775808 : Int) ≤ 1; omega, by show (1 : Int) ≤ 9223372036854775807; omega⟩
        have hx1 := boxW_new wr x 37
        have bb := hb.alloc hb.size (.cells #[.string x.key, .string x.val, .bool x.gone] 37)
        obtain ⟨d0, d1, d2⟩ := id hx1
        clear hkl hfx
        go_wp2_with fail
        refine (HE.out _).mono ?_
        rintro e w1 ⟨rfl, hb1⟩
        have b1 := bb.trans (hb1.mono bb.size)
        clear hx1 d0 d1 d2 bb hb1 hb HA
        cases hwx : wriOk x with
        | false =>
          have END : Hid (batchOk xs = false) := HNO.out hwx
          clear HM HNO HE hwx
          go_wp2
          go_ret
          exact ⟨by rw [END.out]; rfl, b1⟩
        | true =>
          have HA2 : Hid ((xs.take (k + 1)).all wriOk = true) := HM.out hwx
          clear HM HNO HE hwx
          go_wp2
          go_roundw
          case rel => exact ⟨k + 1, by omega, by go_num, HA2, b1⟩
          case measure => simp [intOf]; omega
      · have hke : k = n := by omega
        have END : Hid (batchOk xs = true) := HB.out true (by have := HA.out; rwa [hke, HN.out, List.take_length] at this)
        clear hke HA
        go_wp2
        go_ret
        exact ⟨by rw [END.out]; rfl, hb⟩
set_option maxHeartbeats 1000000 in
set_option maxRecDepth 100000 in
theorem entryOf_any (x : Wri) (s : Int) (w : World) :
    Calls Try.prog 30 #[.agg #[.string x.key, .string x.val, .bool x.gone], .int .i64 s] w fun e w' => e = .returned (.agg #[.string x.key, .string x.val, .int .i64 s, .bool x.gone]) ∧ Below w.heap.size w w' := by
  go_enter Try.func30, Try.ntmps30
  go_wp2
  refine bodyPost_ret (v := .agg #[.string x.key, .string x.val, .int .i64 s, .bool x.gone]) (by simp [results, Try.results30, go_sem]) rfl ⟨rfl, ?_⟩
  exact below2 _ _ _
end Go.Proofs.Ythkckgjcecommaa
