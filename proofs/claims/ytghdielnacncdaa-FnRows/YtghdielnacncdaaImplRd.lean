/- The contract of the program's ReadNumber over any slice of bytes that can be read. -/
import Derived.Test.YtghdielnacncdaaCur
namespace Go.Proofs.Ytghdielnacncdaa
open Go.RowKit
set_option maxHeartbeats 400000 in
set_option maxRecDepth 100000 in
theorem firstInt_any (w0 w : World) (g : Nat) (v : Value) (bs : List UInt8) (h : Cur w0 w g v bs 0) :
    Calls Try.prog 22 #[.pointer (some ⟨g, 0, none⟩), .func (.func 23) #[.pointer (some ⟨g, 0, none⟩)] #[]] w fun e w' => e = .returned (.tuple #[.int .i64 ((rdNum bs).1 : Int), .int .i64 ((rdNum bs).2 : Int)]) ∧ Below w0.heap.size w0 w' := by
  have hlen := rdNum_len bs
  obtain ⟨R, hR⟩ : ∃ R, R = rdNum bs := ⟨_, rfl⟩
  rw [← hR] at hlen ⊢
  have HR : Hid (R = rdNum (bs.drop 0)) := hR
  clear hR
  by_cases hz : R.2 = 0
  · have HF : Hid (R.1 = 0) := by
      have h0 := rdNum_zero bs
      have e := HR.out
      rw [List.drop_zero] at e
      rw [← e] at h0
      exact h0 hz
    go_enter Try.func22, Try.ntmps22
    go_wp2_with fail
    refine (number_any w0 w g v bs 0 h).mono ?_
    rw [← HR.out]
    rintro e w1 ⟨p', rfl, hc, hp, hg⟩
    have hb : decide (R.2 ≠ 0) = false := by simp [hz]
    rw [hb]
    have H2 := hc.bel
    have HZ : Hid (R.2 = 0) := hz
    clear hz hb hp hg hc h
    go_wp2
    go_ret2
    exact ⟨by rw [HF.out, HZ.out]; rfl, H2⟩
  · go_enter Try.func22, Try.ntmps22
    go_wp2_with fail
    refine (number_any w0 w g v bs 0 h).mono ?_
    rw [← HR.out]
    rintro e w1 ⟨p', rfl, hc, hp, hg⟩
    have hb : decide (R.2 ≠ 0) = true := by simp [hz]
    rw [hb]
    have hp' : p' = R.2 := by rw [hp hz]; omega
    subst hp'
    obtain ⟨c0, c1, f1⟩ := hc.cells
    have H2 := hc.bel
    clear hz hb hp hg hc h
    go_wp2
    go_quiet (fail)
    go_wp2
    go_ret2
    exact ⟨rfl, below_drewN H2 _⟩
set_option maxHeartbeats 400000 in
set_option maxRecDepth 100000 in
theorem implReadNumber_any (v : Value) (bs : List UInt8) (w : World) (hr : Rd w v bs) :
    Calls Try.prog 8 #[v] w fun e w' => e = .returned (.tuple #[.int .i64 ((rdNum bs).1 : Int), .int .i64 ((rdNum bs).2 : Int)]) ∧ Below w.heap.size w w' := by
  obtain ⟨a, cap, hv, _⟩ := id hr
  subst hv
  go_enter Try.func8, Try.ntmps8
  go_wp2_with fail
  refine (firstInt_any w _ w.heap.size _ bs (cur_new hr)).mono ?_
  rintro e w1 ⟨rfl, hb⟩
  go_wp2
  go_ret2
  exact ⟨rfl, hb⟩
end Go.Proofs.Ytghdielnacncdaa
