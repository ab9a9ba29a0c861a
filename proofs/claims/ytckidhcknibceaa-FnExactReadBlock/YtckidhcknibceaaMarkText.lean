/- The contract of the law's own mark of a number, as a text. -/
import Derived.Test.YtckidhcknibceaaAid
import Derived.Test.YtckidhcknibceaaStrBase
import Derived.Deep.RegionHeld3
namespace Go.Proofs.Ytckidhcknibceaa
open Go.RowKit
/-- The digits of k ahead of acc. -/
def digs (k : Nat) (acc : List UInt8) : List UInt8 := if h : k = 0 then acc else digs (k / 10) (UInt8.ofNat (48 + k % 10) :: acc)
theorem digs_zero (acc : List UInt8) : digs 0 acc = acc := by rw [digs, dif_pos rfl]
theorem digs_step (k : Nat) (h : 0 < k) (acc : List UInt8) : digs k acc = digs (k / 10) (UInt8.ofNat (48 + k % 10) :: acc) := by rw [digs, dif_neg (by omega)]
/-- The law's mark number k. -/
def mk (k : Nat) : ByteArray := ⟨((109 : UInt8) :: digs k []).toArray⟩
set_option maxHeartbeats 400000 in
set_option maxRecDepth 100000 in
theorem markText_any (k : Nat) (w : World) (h0 : 0 < k) (h1 : k ≤ 4194304) :
    Calls Try.prog 53 #[.int .i64 (k : Int)] w fun e w' => e = .returned (.string (mk k)) ∧ Below w.heap.size w w' := by
  go_enter Try.func53, Try.ntmps53
  go_wp2
  go_loopw [0, 3] (fun n v wr => ∃ (m : Nat) (ys : List UInt8), n = .int .i64 m ∧ m ≤ 4194304 ∧ v = .string ⟨ys.toArray⟩ ∧ ys.length + m ≤ 4194304 ∧ Hid (digs m ys = digs k []) ∧ Below w.heap.size w wr) (fun n _ _ => (intOf n).toNat)
  case atStart => exact ⟨k, [], rfl, h1, rfl, by simp; omega, rfl, Below.refl _ _⟩
  case round =>
    obtain ⟨m, ys, rfl, hm, rfl, hy, he, hb⟩ := hrel
    have hs := hb.size
    by_cases hlt : 0 < m
    · have hcv := conv_one wr (UInt8.ofNat (48 + m % 10)) (48 + (m : Int) % 10) (dig_toNat m)
      generalize hd : UInt8.ofNat (48 + m % 10) = d at hcv
      have hadd : ∀ w', (Op.stringOp .add ⟨#[d]⟩ ⟨ys.toArray⟩).run Try.prog w' = .ok (.string ⟨(d :: ys).toArray⟩) w' := fun w' => run_string_add_lists w' [d] ys (by simp) (by omega)
      have HE : Hid (digs (m / 10) (d :: ys) = digs k []) := by show _ = _; rw [← hd, ← digs_step m hlt]; exact he.out
      have R2 : Below w.heap.size w (wr.alloc (.cells #[.int .u8 (48 + (m : Int) % 10)] 5)) := hb.alloc hs _
      clear hd he hb
      go_wp2
      go_roundw
      case rel => exact ⟨m / 10, d :: ys, by go_num, by omega, by simp, by simp only [List.length_cons]; omega, HE, R2⟩
      case measure => simp [intOf]; omega
    · have hm0 : m = 0 := by omega
      subst hm0
      have HE : Hid (ys = digs k []) := by show _ = _; rw [← he.out, digs_zero]
      have hadd : ∀ w', (Op.stringOp .add ⟨#[109]⟩ ⟨ys.toArray⟩).run Try.prog w' = .ok (.string ⟨((109 : UInt8) :: ys).toArray⟩) w' := fun w' => run_string_add_lists w' [109] ys (by simp) (by omega)
      clear he
      go_wp2
      go_ret
      refine ⟨?_, hb⟩
      unfold mk
      rw [← HE.out]
      simp
theorem markText_at (x : Int) (k : Nat) (w : World) (hx : x = (k : Int)) (h0 : 0 < k) (h1 : k ≤ 4194304) :
    Calls Try.prog 53 #[.int .i64 x] w fun e w' => e = .returned (.string (mk k)) ∧ Below w.heap.size w w' := by
  subst hx; exact markText_any k w h0 h1

end Go.Proofs.Ytckidhcknibceaa
