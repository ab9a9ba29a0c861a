/- What the rows' lists of variables give the walks of Root, Switch and Halfway. The contracts of the law of devices' own helpers: likeTexts and likeDevice at like devices. likeDevice at a device with nothing in it, and any other. -/
import Derived.Test.YtpidmmfjmbinkaaGreatDoorRows
import Derived.Test.YtpidmmfjmbinkaaGreatDoorSltAt
import Derived.Test.YtpidmmfjmbinkaaGreatDoorG35
import Derived.LaidMore
import Derived.LaidHandle
import Derived.Stop.LaidErr
import Derived.Stop.LaidTwo
import Derived.Test.YtpidmmfjmbinkaaGreatDoorG04
import Derived.BigQuiet
import Derived.Test.YtpidmmfjmbinkaaGreatDoorG18
namespace Go.Proofs.YtpidmmfjmbinkaaGreatDoor
open Go.RowKit Go.ChangeShapes
theorem var_below {P : Program} {W W' : World} {n : String} {cs : Array Value} (h : W.var? P n = some cs) (hb : Below W.heap.size W W') : W'.var? P n = some cs := by
  unfold World.var? at h ⊢
  cases hg : P.globalNamed n with
  | none => simp [hg] at h
  | some g =>
    simp only [hg, Option.bind_some] at h ⊢
    have hlt : g < W.heap.size := by
      rcases Nat.lt_or_ge g W.heap.size with h' | h'
      · exact h'
      · simp [Array.getElem?_eq_none h'] at h
    rw [hb.block g hlt]
    exact h
theorem gSlot : Tryz.prog.globalNamed "loop.example/g00217/impl.errNoSlot" = some 0 := by kernel_rfl
theorem gSec : Tryz.prog.globalNamed "loop.example/g00217/impl.errNoSector" = some 1 := by kernel_rfl
theorem gSyn : Tryz.prog.globalNamed "strconv.ErrSyntax" = some 5 := by kernel_rfl
theorem gRng : Tryz.prog.globalNamed "strconv.ErrRange" = some 6 := by kernel_rfl
theorem tSlot : (Tryz.prog.globals[0]?).map (·.type) = some 59 := by kernel_rfl
theorem tSec : (Tryz.prog.globals[1]?).map (·.type) = some 59 := by kernel_rfl
theorem tSyn : (Tryz.prog.globals[5]?).map (·.type) = some 59 := by kernel_rfl
theorem tRng : (Tryz.prog.globals[6]?).map (·.type) = some 59 := by kernel_rfl
theorem starE : "*" ++ "errors.errorString" = "*errors.errorString" := by decide
theorem rowE (u : TypeId) (h : Tryz.prog.typeName? 3 u = some "*errors.errorString") : u = 174 :=
  typeName_ptr_named (nm := "errors.errorString") (by rw [starE]; kernel_rfl) (by kernel_rfl) (by decide) u (by rw [starE]; exact h)
theorem cellsE : Tryz.prog.cellsOf 176 = 1 := by kernel_rfl
theorem cellsStr : Tryz.prog.cellsOf 9 = 1 := by kernel_rfl
/-- What the seven plain ones give. -/
theorem env2_of_laid {W : World} (h : laidMet Tryz.prog [("math/bits.deBruijn32tab", Rows.laid_math_bits_deBruijn32tab), ("math/bits.deBruijn64tab", Rows.laid_math_bits_deBruijn64tab), ("internal/strconv.uint64pow10", Rows.laid_internal_strconv_uint64pow10), ("strconv.ErrRange", Rows.laid_strconv_ErrRange), ("strconv.ErrSyntax", Rows.laid_strconv_ErrSyntax), ("loop.example/g00217/impl.errNoSlot", Rows.laid_loop_example_g00217_impl_errNoSlot), ("loop.example/g00217/impl.errNoSector", Rows.laid_loop_example_g00217_impl_errNoSector)] W) :
    ∃ a b, SEnv2 W a b ∧ W.var? Tryz.prog "loop.example/g00217/impl.errNoSector" = some #[.iface 174 (.pointer (some b))] ∧ W.var? Tryz.prog "loop.example/g00217/impl.errNoSlot" = some #[.iface 174 (.pointer (some a))] := by
  have h2 := h.tail.tail
  obtain ⟨aR, sR, vR, _, _, _⟩ := laid_sentinel h2.tail gRng tRng Tryz.underlying59 rowE Tryz.underlying174 Tryz.underlying176 rfl rfl Tryz.underlying9 cellsE cellsStr
  obtain ⟨aS, sS, vS, _, _, _⟩ := laid_sentinel h2.tail.tail gSyn tSyn Tryz.underlying59 rowE Tryz.underlying174 Tryz.underlying176 rfl rfl Tryz.underlying9 cellsE cellsStr
  obtain ⟨a, b, s0, s1, c0, c1, t0, t1, va, vb, _, _, _, _, _, _, hne, hb0, hb1⟩ := laid_sentinels2 h2.tail.tail.tail gSlot tSlot gSec tSec Tryz.underlying59 rowE Tryz.underlying174 Tryz.underlying176 rfl rfl Tryz.underlying9 cellsE cellsStr
  refine ⟨a, b, ⟨⟨?_, ⟨_, _, by simpa using World.var?_cell gSyn vS 0⟩, ⟨_, _, by simpa using World.var?_cell gRng vR 0⟩, by simpa using World.var?_cell gSlot va 0⟩, by simpa using World.var?_cell gSec vb 0, hne, ⟨c0, t0, hb0⟩, ⟨c1, t1, hb1⟩⟩, vb, va⟩
  rw [dPow] at h2
  exact Lib.tabIs_of_head gPow tPow Tryz.underlying145 Tryz.underlying113 (by kernel_rfl) (by kernel_rfl) h2
end Go.Proofs.YtpidmmfjmbinkaaGreatDoor
namespace Go.Proofs.YtpidmmfjmbinkaaGreatDoor
open Go.RowKit
set_option maxHeartbeats 400000 in
set_option maxRecDepth 100000 in
theorem likeTextsD_same (va vb : Value) (bs : List ByteArray) (w : World) (ha : RdS w va bs) (hb : RdS w vb bs) :
    Calls Tryz.prog 41 #[va, vb] w fun e w' => e = .returned (.bool true) ∧ ∃ q, w' = w.drewN q := by
  obtain ⟨aa, ca, rfl, hla, hma, hA⟩ := ha
  obtain ⟨ab, cb, rfl, hlb, hmb, hB⟩ := hb
  unfold maxLen at hma hmb
  have hne : ((bs.length : Int) != (bs.length : Int)) = false := by simp
  rcases hA with rfl | ⟨ba, offa, rfl, hA⟩
  · go_enter Tryz.func41, Tryz.ntmps41
    go_wp2
    refine wp_loop_rounds 1 ?_
    rw [rounds_succ]
    go_wp2
    go_ret
    exact ⟨rfl, 0, rfl⟩
  · rcases hB with rfl | ⟨bb, offb, rfl, hB⟩
    · go_enter Tryz.func41, Tryz.ntmps41
      go_wp2
      refine wp_loop_rounds 1 ?_
      rw [rounds_succ]
      go_wp2
      go_ret
      exact ⟨rfl, 0, rfl⟩
    · go_enter Tryz.func41, Tryz.ntmps41
      go_wp2
      go_loopw [5] (fun i wr => ∃ k : Nat, k ≤ bs.length ∧ i = .int .i64 k ∧ ∃ q, wr = w.drewN q) (fun i _ => bs.length - (intOf i).toNat)
      case atStart => exact ⟨0, Nat.zero_le _, rfl, 0, rfl⟩
      case round =>
        obtain ⟨k, hk, rfl, q, rfl⟩ := hrel
        by_cases hlt : k < bs.length
        · have h1 := hA k hlt
          have h2 := hB k hlt
          clear hA hB
          go_wp2
          go_quiet (fail)
          go_wp2
          go_roundw
          case rel => exact ⟨k + 1, by omega, by go_num, _, rfl⟩
          case measure => simp [intOf]; omega
        · go_wp2
          go_ret
          exact ⟨rfl, q, rfl⟩
set_option maxHeartbeats 4000000 in
set_option maxRecDepth 100000 in
theorem likeDev_same (Y Z : DvX) (w : World) (hy : RdDv w Y) (hz : RdDv w Z) (hs : Y.secs = Z.secs) (hl : Y.late = Z.late) :
    Calls Tryz.prog 16 #[.agg #[Y.vs, Y.vl], .agg #[Z.vs, Z.vl]] w fun e w' => e = .returned (.bool true) ∧ Below w.heap.size w w' := by
  have HS : Hid (∀ W, RdDv W Y → RdDv W Z → Calls Tryz.prog 41 #[Y.vs, Z.vs] W fun e w' => e = .returned (.bool true) ∧ ∃ q, w' = W.drewN q) := fun W h1 h2 => likeTextsD_same _ _ Y.secs W h1.secs (by rw [hs]; exact h2.secs)
  obtain ⟨es, hes⟩ : ∃ es, es = Y.late := ⟨_, rfl⟩
  have pY : RdPt w Y.vl es := by rw [hes]; exact hy.late
  have pZ : RdPt w Z.vl es := by rw [hes, hl]; exact hz.late
  clear hs hl hes
  obtain ⟨aa, ca, hva, hla, hma, _⟩ := id pY
  obtain ⟨ab, cb, hvb, hlb, hmb, _⟩ := id pZ
  rw [hva] at pY
  rw [hvb] at pZ
  unfold maxLen at hma hmb
  have hne : ((es.length : Int) != (es.length : Int)) = false := by simp
  have t0 := dvAt_new w Y 27
  have b0 := below1 w (.cells #[Y.vs, Y.vl] 27)
  obtain ⟨W0, hW0⟩ : ∃ W0, W0 = w.alloc (.cells #[Y.vs, Y.vl] 27) := ⟨_, rfl⟩
  have s0 : W0.heap.size = w.heap.size + 1 := by rw [hW0]; simp
  rw [← hW0] at t0 b0
  have u1 := dvAt_new W0 Z 27
  have b1 := below1 W0 (.cells #[Z.vs, Z.vl] 27)
  obtain ⟨W1, hW1⟩ : ∃ W1, W1 = W0.alloc (.cells #[Z.vs, Z.vl] 27) := ⟨_, rfl⟩
  rw [← hW1] at u1 b1
  rw [s0] at u1
  have t1 := t0.below b1
  have bw1 : Below w.heap.size w W1 := b0.trans (b1.mono (by omega))
  have HW1 : Hid ((w.alloc (.cells #[Y.vs, Y.vl] 27)).alloc (.cells #[Z.vs, Z.vl] 27) = W1) := by unfold Hid; rw [hW1, hW0]
  obtain ⟨d0, d1⟩ := id t1
  obtain ⟨e0, e1⟩ := id u1
  rw [← HW1.out] at d0 d1 e0 e1
  have HVA : Hid (Y.vl = .slice aa es.length ca) := hva
  have HVB : Hid (Z.vl = .slice ab es.length cb) := hvb
  clear t0 b0 b1 hW0 hW1 s0 hva hvb
  go_enter Tryz.func16, Tryz.ntmps16
  go_wp2_with fail
  rw [HW1.out]
  refine (HS.out _ (hy.below bw1) (hz.below bw1)).mono ?_
  rintro e w2 ⟨rfl, n2, rfl⟩
  have bd : Below W1.heap.size W1 (W1.drewN n2) := below_drewN' n2
  have t2 := t1.below bd
  have u2 := u1.below bd
  have b2 := bw1.trans (bd.mono bw1.size)
  clear d0 d1 e0 e1 t1 u1 bw1 bd HS HW1
  generalize W1.drewN n2 = w2 at t2 u2 b2 ⊢
  obtain ⟨d0, d1⟩ := id t2
  obtain ⟨e0, e1⟩ := id u2
  rw [HVA.out] at d1
  rw [HVB.out] at e1
  obtain ⟨n, hn⟩ : ∃ n, n = es.length := ⟨_, rfl⟩
  rw [← hn] at d1 e1 pY pZ hne hla hlb
  have HN : Hid (n = es.length) := hn
  clear hn
  go_wp2
  clear d0 d1 e0 e1
  go_loopw [5] (fun i wr => ∃ k : Nat, k ≤ n ∧ i = .int .i64 k ∧ Below w2.heap.size w2 wr) (fun i _ => n - (intOf i).toNat)
  case atStart => exact ⟨0, Nat.zero_le _, rfl, Below.refl _ _⟩
  case round =>
    obtain ⟨k, hk, rfl, hbw⟩ := hrel
    have bA := b2.trans (hbw.mono b2.size)
    obtain ⟨d0, d1⟩ := t2.below hbw
    obtain ⟨e0, e1⟩ := u2.below hbw
    rw [HVA.out, ← HN.out] at d1
    rw [HVB.out, ← HN.out] at e1
    by_cases hlt : k < n
    · obtain ⟨c1, o1, rfl, hc1⟩ := (pY.below bA).at HN.out k (by rw [← HN.out]; exact hlt)
      obtain ⟨c2, o2, rfl, hc2⟩ := (pZ.below bA).at HN.out k (by rw [← HN.out]; exact hlt)
      obtain ⟨x, hx⟩ : ∃ x, x = nthP es k := ⟨_, rfl⟩
      rw [← hx] at hc1 hc2
      clear hx
      obtain ⟨x0, x1⟩ := hc1
      obtain ⟨z0, z1⟩ := hc2
      go_wp2
      go_quiet (fail)
      clear d0 d1 e0 e1 x0 x1 z0 z1
      go_wp2
      go_roundw
      case rel => exact ⟨k + 1, by omega, by go_num, below_drewN hbw _⟩
      case measure => simp [intOf]; omega
    · go_wp2
      go_ret
      exact ⟨rfl, bA⟩
end Go.Proofs.YtpidmmfjmbinkaaGreatDoor
namespace Go.Proofs.YtpidmmfjmbinkaaGreatDoor
open Go.RowKit
set_option maxHeartbeats 1000000 in
set_option maxRecDepth 100000 in
theorem likeTxt_zero (xa : Option Addr) (xc : Nat) (vb : Value) (bs : List ByteArray) (w : World) (hb : RdS w vb bs) :
    Calls Tryz.prog 41 #[.slice xa 0 xc, vb] w fun e w' => e = .returned (.bool (decide (bs.length = 0))) ∧ w' = w := by
  obtain ⟨ab, cb, rfl, hlb, hmb, _⟩ := hb
  unfold maxLen at hmb
  by_cases h : bs.length = 0
  · have hn : ((0 : Int) != (bs.length : Int)) = false := by rw [h]; rfl
    have hd : decide (bs.length = 0) = true := by simp [h]
    rw [hd]
    go_enter Tryz.func41, Tryz.ntmps41
    go_wp2
    refine wp_loop_rounds 1 ?_
    rw [rounds_succ]
    go_wp2
    go_ret
    exact ⟨rfl, rfl⟩
  · have hn : ((0 : Int) != (bs.length : Int)) = true := by simp; omega
    have hd : decide (bs.length = 0) = false := by simp [h]
    rw [hd]
    go_enter Tryz.func41, Tryz.ntmps41
    go_wp2
    go_ret
    exact ⟨rfl, rfl⟩
set_option maxHeartbeats 4000000 in
set_option maxRecDepth 100000 in
theorem likeDev_zero (xa xl : Option Addr) (xc xk : Nat) (sa la : Option Addr) (cs cl : Nat) (ss : List ByteArray) (ps : List Pat) (w : World) (hx : RdDv w (dvOf sa la cs cl ss ps)) :
    Calls Tryz.prog 16 #[.agg #[.slice xa 0 xc, .slice xl 0 xk], .agg #[.slice sa ss.length cs, .slice la ps.length cl]] w fun e w' => (∃ b : Bool, e = .returned (.bool b)) ∧ Below w.heap.size w w' := by
  obtain ⟨_, _, _, hlm, _⟩ := id hx.late
  have c0 : ((w.alloc (.cells #[.slice xa 0 xc, .slice xl 0 xk] 27)).alloc (.cells #[.slice sa ss.length cs, .slice la ps.length cl] 27)).cell? ⟨w.heap.size, 0, none⟩ = some (.slice xa 0 xc) := by rw [World.cell?_alloc_past _ _ _ (by simp)]; simp [World.cell?_alloc_at]
  have c1 : ((w.alloc (.cells #[.slice xa 0 xc, .slice xl 0 xk] 27)).alloc (.cells #[.slice sa ss.length cs, .slice la ps.length cl] 27)).cell? ⟨w.heap.size, 1, none⟩ = some (.slice xl 0 xk) := by rw [World.cell?_alloc_past _ _ _ (by simp)]; simp [World.cell?_alloc_at]
  have d0 : ((w.alloc (.cells #[.slice xa 0 xc, .slice xl 0 xk] 27)).alloc (.cells #[.slice sa ss.length cs, .slice la ps.length cl] 27)).cell? ⟨w.heap.size + 1, 0, none⟩ = some (.slice sa ss.length cs) := by simp [World.cell?_alloc_at]
  have d1 : ((w.alloc (.cells #[.slice xa 0 xc, .slice xl 0 xk] 27)).alloc (.cells #[.slice sa ss.length cs, .slice la ps.length cl] 27)).cell? ⟨w.heap.size + 1, 1, none⟩ = some (.slice la ps.length cl) := by simp [World.cell?_alloc_at]
  have b0 := below1 w (.cells #[.slice xa 0 xc, .slice xl 0 xk] 27)
  have b1 := b0.trans ((below1 _ (.cells #[.slice sa ss.length cs, .slice la ps.length cl] 27)).mono b0.size)
  have hs := (hx.below b1).secs
  go_enter Tryz.func16, Tryz.ntmps16
  go_wp2_with fail
  generalize (w.alloc (.cells #[.slice xa 0 xc, .slice xl 0 xk] 27)).alloc (.cells #[.slice sa ss.length cs, .slice la ps.length cl] 27) = W at c0 c1 d0 d1 b1 hs ⊢
  refine (likeTxt_zero xa xc _ ss _ hs).mono ?_
  rintro e w2 ⟨rfl, hw2⟩
  obtain rfl := hw2.symm
  by_cases h1 : ss.length = 0
  · have hd : decide (ss.length = 0) = true := by simp [h1]
    rw [hd]
    by_cases h2 : ps.length = 0
    · have hn : ((0 : Int) != (ps.length : Int)) = false := by rw [h2]; rfl
      go_wp2
      refine wp_loop_rounds 1 ?_
      rw [rounds_succ]
      go_wp2
      go_ret
      exact ⟨⟨_, rfl⟩, b1⟩
    · have hn : ((0 : Int) != (ps.length : Int)) = true := by simp; omega
      go_wp2
      go_ret
      exact ⟨⟨_, rfl⟩, b1⟩
  · have hd : decide (ss.length = 0) = false := by simp [h1]
    rw [hd]
    go_wp2
    go_ret
    exact ⟨⟨_, rfl⟩, b1⟩
end Go.Proofs.YtpidmmfjmbinkaaGreatDoor
