/- The law's comparison of two like Replicas without lists. -/
-- UNF Gen
import Derived.Test.YtilhaokiohbeeabGreatDoorNclBase
import Derived.Test.YtilhaokiohbeeabGreatDoorNrpBase
namespace Go.Proofs.YtilhaokiohbeeabGreatDoor
open Go.RowKit
set_option maxHeartbeats 4000000 in
set_option maxRecDepth 100000 in
theorem eqProofN_any (a b : Int) (w : World) :
    Calls Tryz.prog 94 #[.agg #[.int .i64 a, .int .i64 b, .slice none 0 0, .slice none 0 0], .agg #[.int .i64 a, .int .i64 b, .slice none 0 0, .slice none 0 0]] w fun e w' => e = .returned (.bool true) ∧ Below w.heap.size w w' := by
  have na : (a != a) = false := by simp
  have nb : (b != b) = false := by simp
  go_enter Tryz.func94, Tryz.ntmps94
  go_wp2_with fail
  refine (eqInt64S_nil _).mono ?_
  rintro e w2 ⟨rfl, hw⟩
  subst hw
  go_wp2_with fail
  refine (eqInt64S_nil _).mono ?_
  rintro e w2 ⟨rfl, hw⟩
  subst hw
  go_wp2
  go_ret
  exact ⟨rfl, below2 _ _ _⟩
set_option maxHeartbeats 4000000 in
set_option maxRecDepth 100000 in
theorem eqReplicaN_any (x : Ncr) (w : World) :
    Calls Tryz.prog 64 #[.agg #[.int .i64 x.idn, .int .i64 x.n, .int .i64 x.vw, .int .i64 x.vo, .int .i64 x.lo, .int .i64 x.pr, .int .i64 x.hv, .int .i64 x.hn, .slice none 0 0, .slice none 0 0, .slice none 0 0, .slice none 0 0, .slice none 0 0, .slice none 0 0], .agg #[.int .i64 x.idn, .int .i64 x.n, .int .i64 x.vw, .int .i64 x.vo, .int .i64 x.lo, .int .i64 x.pr, .int .i64 x.hv, .int .i64 x.hn, .slice none 0 0, .slice none 0 0, .slice none 0 0, .slice none 0 0, .slice none 0 0, .slice none 0 0]] w fun e w' => e = .returned (.bool true) ∧ Below w.heap.size w w' := by
  have HB : Hid (Below w.heap.size w ((w.alloc (.cells #[.int .i64 x.idn, .int .i64 x.n, .int .i64 x.vw, .int .i64 x.vo, .int .i64 x.lo, .int .i64 x.pr, .int .i64 x.hv, .int .i64 x.hn, .slice none 0 0, .slice none 0 0, .slice none 0 0, .slice none 0 0, .slice none 0 0, .slice none 0 0] 81)).alloc (.cells #[.int .i64 x.idn, .int .i64 x.n, .int .i64 x.vw, .int .i64 x.vo, .int .i64 x.lo, .int .i64 x.pr, .int .i64 x.hv, .int .i64 x.hn, .slice none 0 0, .slice none 0 0, .slice none 0 0, .slice none 0 0, .slice none 0 0, .slice none 0 0] 81))) := below2 _ _ _
  have X0 : Bx ((w.alloc (.cells #[.int .i64 x.idn, .int .i64 x.n, .int .i64 x.vw, .int .i64 x.vo, .int .i64 x.lo, .int .i64 x.pr, .int .i64 x.hv, .int .i64 x.hn, .slice none 0 0, .slice none 0 0, .slice none 0 0, .slice none 0 0, .slice none 0 0, .slice none 0 0] 81)).alloc (.cells #[.int .i64 x.idn, .int .i64 x.n, .int .i64 x.vw, .int .i64 x.vo, .int .i64 x.lo, .int .i64 x.pr, .int .i64 x.hv, .int .i64 x.hn, .slice none 0 0, .slice none 0 0, .slice none 0 0, .slice none 0 0, .slice none 0 0, .slice none 0 0] 81)) w.heap.size 81 #[.int .i64 x.idn, .int .i64 x.n, .int .i64 x.vw, .int .i64 x.vo, .int .i64 x.lo, .int .i64 x.pr, .int .i64 x.hv, .int .i64 x.hn, .slice none 0 0, .slice none 0 0, .slice none 0 0, .slice none 0 0, .slice none 0 0, .slice none 0 0] := (bx_new w _ _).below (below1 _ _)
  have Y0 : Bx ((w.alloc (.cells #[.int .i64 x.idn, .int .i64 x.n, .int .i64 x.vw, .int .i64 x.vo, .int .i64 x.lo, .int .i64 x.pr, .int .i64 x.hv, .int .i64 x.hn, .slice none 0 0, .slice none 0 0, .slice none 0 0, .slice none 0 0, .slice none 0 0, .slice none 0 0] 81)).alloc (.cells #[.int .i64 x.idn, .int .i64 x.n, .int .i64 x.vw, .int .i64 x.vo, .int .i64 x.lo, .int .i64 x.pr, .int .i64 x.hv, .int .i64 x.hn, .slice none 0 0, .slice none 0 0, .slice none 0 0, .slice none 0 0, .slice none 0 0, .slice none 0 0] 81)) (w.heap.size + 1) 81 #[.int .i64 x.idn, .int .i64 x.n, .int .i64 x.vw, .int .i64 x.vo, .int .i64 x.lo, .int .i64 x.pr, .int .i64 x.hv, .int .i64 x.hn, .slice none 0 0, .slice none 0 0, .slice none 0 0, .slice none 0 0, .slice none 0 0, .slice none 0 0] := by
    have h := bx_new (w.alloc (.cells #[.int .i64 x.idn, .int .i64 x.n, .int .i64 x.vw, .int .i64 x.vo, .int .i64 x.lo, .int .i64 x.pr, .int .i64 x.hv, .int .i64 x.hn, .slice none 0 0, .slice none 0 0, .slice none 0 0, .slice none 0 0, .slice none 0 0, .slice none 0 0] 81)) 81 #[.int .i64 x.idn, .int .i64 x.n, .int .i64 x.vw, .int .i64 x.vo, .int .i64 x.lo, .int .i64 x.pr, .int .i64 x.hv, .int .i64 x.hn, .slice none 0 0, .slice none 0 0, .slice none 0 0, .slice none 0 0, .slice none 0 0, .slice none 0 0]
    rwa [show (w.alloc (.cells #[.int .i64 x.idn, .int .i64 x.n, .int .i64 x.vw, .int .i64 x.vo, .int .i64 x.lo, .int .i64 x.pr, .int .i64 x.hv, .int .i64 x.hn, .slice none 0 0, .slice none 0 0, .slice none 0 0, .slice none 0 0, .slice none 0 0, .slice none 0 0] 81)).heap.size = w.heap.size + 1 by simp] at h
  have n0 : (x.idn != x.idn) = false := by simp
  have n1 : (x.n != x.n) = false := by simp
  have n2 : (x.vw != x.vw) = false := by simp
  have n3 : (x.vo != x.vo) = false := by simp
  have n4 : (x.lo != x.lo) = false := by simp
  have n5 : (x.pr != x.pr) = false := by simp
  go_enter Tryz.func64, Tryz.ntmps64
  go_wp2_with fail
  refine (eqProofN_any x.hv x.hn _).mono ?_
  rintro e w2 ⟨rfl, hb2⟩
  have X2 := X0.below hb2
  have Y2 := Y0.below hb2
  have bz := HB.out.trans (hb2.mono HB.out.size)
  clear X0 Y0 hb2 n0 n1 n2 n3 n4 n5
  have a10 := X2.cell 10 rfl
  have b10 := Y2.cell 10 rfl
  have a11 := X2.cell 11 rfl
  have b11 := Y2.cell 11 rfl
  have a12 := X2.cell 12 rfl
  have b12 := Y2.cell 12 rfl
  have a13 := X2.cell 13 rfl
  have b13 := Y2.cell 13 rfl
  go_wp2_with fail
  refine (eqBlockS_nil _).mono ?_
  rintro e w3 ⟨rfl, hw⟩
  subst hw
  go_wp2_with fail
  refine (eqVoteS_nil _).mono ?_
  rintro e w3 ⟨rfl, hw⟩
  subst hw
  go_wp2_with fail
  refine (eqNewsS_nil _).mono ?_
  rintro e w3 ⟨rfl, hw⟩
  subst hw
  go_wp2_with fail
  refine (eqInt64S_nil _).mono ?_
  rintro e w3 ⟨rfl, hw⟩
  subst hw
  go_wp2
  go_ret
  exact ⟨rfl, bz⟩
end Go.Proofs.YtilhaokiohbeeabGreatDoor
