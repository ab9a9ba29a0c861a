/- The contract of the program's ReadText over any slice of bytes that can be read. -/
import Derived.Test.YtghdielnacncdaaCurText
namespace Go.Proofs.Ytghdielnacncdaa
open Go.RowKit
theorem rdText_zero (bs : List UInt8) (h : (rdText bs).2 = 0) : (rdText bs).1 = [] := by
  unfold rdText at h ⊢
  split
  · rfl
  · rename_i hn; rw [if_neg hn] at h; simp at h; omega
set_option maxHeartbeats 400000 in
set_option maxRecDepth 100000 in
theorem firstText_any (w0 w : World) (g : Nat) (v : Value) (bs : List UInt8) (h : Cur w0 w g v bs 0) :
    Calls Try.prog 24 #[.pointer (some ⟨g, 0, none⟩), .func (.func 25) #[.pointer (some ⟨g, 0, none⟩)] #[]] w fun e w' => e = .returned (.tuple #[.string ⟨(rdText bs).1.toArray⟩, .int .i64 ((rdText bs).2 : Int)]) ∧ Below w0.heap.size w0 w' := by
  obtain ⟨R, hR⟩ : ∃ R, R = rdText bs := ⟨_, rfl⟩
  rw [← hR]
  have HR : Hid (R = rdText (bs.drop 0)) := hR
  clear hR
  by_cases hz : R.2 = 0
  · have HF : Hid (R.1 = []) := by
      have h0 := rdText_zero bs
      have e := HR.out
      rw [List.drop_zero] at e
      rw [← e] at h0
      exact h0 hz
    go_enter Try.func24, Try.ntmps24
    go_wp2_with fail
    refine (text_any w0 w g v bs 0 h).mono ?_
    rw [← HR.out]
    rintro e w1 ⟨p', rfl, hc, hp, hg⟩
    have hb : decide (R.2 ≠ 0) = false := by simp [hz]
    rw [hb]
    have H2 := hc.bel
    have HZ : Hid (R.2 = 0) := hz
    clear hz hb hp hg hc h
    go_wp2
    go_ret2
    exact ⟨by rw [HF.out, HZ.out]; rfl, H2⟩
  · go_enter Try.func24, Try.ntmps24
    go_wp2_with fail
    refine (text_any w0 w g v bs 0 h).mono ?_
    rw [← HR.out]
    rintro e w1 ⟨p', rfl, hc, hp, hg⟩
    have hb : decide (R.2 ≠ 0) = true := by simp [hz]
    rw [hb]
    have hp' : p' = R.2 := by rw [hp hz]; omega
    subst hp'
    obtain ⟨c0, c1, f1⟩ := hc.cells
    have H2 := hc.bel
    clear hz hb hp hg hc h
    go_wp2
    go_quiet (fail)
    go_wp2
    go_ret2
    exact ⟨rfl, below_drewN H2 _⟩
set_option maxHeartbeats 400000 in
set_option maxRecDepth 100000 in
theorem implReadText_any (v : Value) (bs : List UInt8) (w : World) (hr : Rd w v bs) :
    Calls Try.prog 12 #[v] w fun e w' => e = .returned (.tuple #[.string ⟨(rdText bs).1.toArray⟩, .int .i64 ((rdText bs).2 : Int)]) ∧ Below w.heap.size w w' := by
  obtain ⟨a, cap, hv, _⟩ := id hr
  subst hv
  go_enter Try.func12, Try.ntmps12
  go_wp2_with fail
  refine (firstText_any w _ w.heap.size _ bs (cur_new hr)).mono ?_
  rintro e w1 ⟨rfl, hb⟩
  go_wp2
  go_ret2
  exact ⟨rfl, hb⟩
end Go.Proofs.Ytghdielnacncdaa
