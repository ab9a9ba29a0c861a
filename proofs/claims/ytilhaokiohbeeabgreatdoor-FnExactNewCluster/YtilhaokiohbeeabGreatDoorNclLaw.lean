/- The law's helpers over a cluster without messages. -/
-- UNF Gen
import Derived.Test.YtilhaokiohbeeabGreatDoorNclMark
import Derived.Test.YtilhaokiohbeeabGreatDoorNclNew
namespace Go.Proofs.YtilhaokiohbeeabGreatDoor
open Go.RowKit
set_option maxHeartbeats 1000000 in
set_option maxRecDepth 100000 in
theorem eqMessageS_nil (w : World) :
    Calls Tryz.prog 36 #[.slice none 0 0, .slice none 0 0] w fun e w' => e = .returned (.bool true) ∧ w' = w := by
  go_enter Tryz.func36, Tryz.ntmps36
  go_wp2
  refine wp_loop_rounds 1 ?_
  rw [rounds_succ]
  go_wp2
  go_ret
  exact ⟨rfl, rfl⟩
set_option maxHeartbeats 1000000 in
set_option maxRecDepth 100000 in
theorem markMessageS_nil (k : Int) (w : World) :
    Calls Tryz.prog 38 #[.slice none 0 0, .int .i64 k] w fun e w' => e = .returned (.int .i64 k) ∧ w' = w := by
  go_enter Tryz.func38, Tryz.ntmps38
  go_wp2
  refine wp_loop_rounds 1 ?_
  rw [rounds_succ]
  go_wp2
  go_ret
  exact ⟨rfl, rfl⟩
set_option maxHeartbeats 1000000 in
set_option maxRecDepth 100000 in
theorem heldMessageS_nil (k : Int) (w : World) :
    Calls Tryz.prog 40 #[.slice none 0 0, .int .i64 k] w fun e w' => e = .returned (.int .i64 k) ∧ w' = w := by
  go_enter Tryz.func40, Tryz.ntmps40
  go_wp2
  refine wp_loop_rounds 1 ?_
  rw [rounds_succ]
  go_wp2
  go_ret
  exact ⟨rfl, rfl⟩
set_option maxHeartbeats 4000000 in
set_option maxRecDepth 100000 in
theorem eqClusterN_any (a b : Option Addr) (n m ca cb : Nat) (es : List Ncr) (w : World) (ha : RdNc w (.slice a n ca) es) (hb : RdNc w (.slice b m cb) es) :
    Calls Tryz.prog 9 #[.agg #[.slice a n ca, .slice none 0 0], .agg #[.slice b m cb, .slice none 0 0]] w fun e w' => e = .returned (.bool true) ∧ Below w.heap.size w w' := by
  have hB := below2 w (.cells #[.slice a n ca, .slice none 0 0] 25) (.cells #[.slice b m cb, .slice none 0 0] 25)
  have X0 := (bx_new w 25 #[.slice a n ca, .slice none 0 0]).below (below1 _ (.cells #[.slice b m cb, .slice none 0 0] 25))
  have Y0 := bx_new (w.alloc (.cells #[.slice a n ca, .slice none 0 0] 25)) 25 #[.slice b m cb, .slice none 0 0]
  rw [show (w.alloc (.cells #[.slice a n ca, .slice none 0 0] 25)).heap.size = w.heap.size + 1 by simp] at Y0
  obtain ⟨x0, x1⟩ := X0.c2
  obtain ⟨y0, y1⟩ := Y0.c2
  go_enter Tryz.func9, Tryz.ntmps9
  go_wp2_with fail
  refine (eqReplicas_nil _ _ es _ (ha.below hB) (hb.below hB)).mono ?_
  rintro e w2 ⟨rfl, hb2⟩
  have bz := hB.trans (hb2.mono hB.size)
  have X2 := X0.below hb2
  have Y2 := Y0.below hb2
  clear x0 x1 y0 y1 X0 Y0 hB hb2
  obtain ⟨x0, x1⟩ := X2.c2
  obtain ⟨y0, y1⟩ := Y2.c2
  go_wp2_with fail
  refine (eqMessageS_nil _).mono ?_
  rintro e w3 ⟨rfl, rfl⟩
  go_wp2
  go_ret
  exact ⟨rfl, bz⟩
set_option maxHeartbeats 4000000 in
set_option maxRecDepth 100000 in
theorem markClusterN_any (a : Option Addr) (n ca base : Nat) (es : List Ncr) (w : World) (hl : es.length ≤ 1000) (ho : OwnNc w base (.slice a n ca) es) :
    Calls Tryz.prog 10 #[.agg #[.slice a n ca, .slice none 0 0], .int .i64 1] w fun e w' => e = .returned (.int .i64 ((1 + 8 * es.length : Nat) : Int)) ∧ OwnNc w' base (.slice a n ca) (ncmarks 1 es.length) ∧ (w.alloc (.cells #[.slice a n ca, .slice none 0 0] 25)).grownBy w' (Value.slice a n ca).ownBlock := by
  have hB := below1 w (.cells #[.slice a n ca, .slice none 0 0] 25)
  have X0 := bx_new w 25 #[.slice a n ca, .slice none 0 0]
  obtain ⟨x0, x1⟩ := X0.c2
  have ho1 := ho.below hB
  obtain ⟨q, hq⟩ : ∃ q : Nat, q = 1 + 8 * es.length := ⟨_, rfl⟩
  go_enter Tryz.func10, Tryz.ntmps10
  go_wp2_with fail
  refine (markReplicasN_any _ es base 1 _ (by omega) ho1).mono ?_
  rintro e w2 ⟨rfl, hO2, hg2⟩
  rw [← hq]
  have X2 := X0.touch (Touch.of_grown hg2 (fun k hk => mem_oneB.2 hk)) (fun e => X0.row ho1 (by decide) _ (mem_oneB.1 e) rfl)
  clear x0 x1 X0 hB
  have HQ : Hid (q = 1 + 8 * es.length) := hq
  clear hq
  obtain ⟨x0, x1⟩ := X2.c2
  go_wp2_with fail
  refine (markMessageS_nil _ _).mono ?_
  rintro e w3 ⟨rfl, rfl⟩
  go_wp2
  go_ret
  exact ⟨by rw [← HQ.out]; rfl, hO2, hg2⟩
set_option maxHeartbeats 4000000 in
set_option maxRecDepth 100000 in
theorem heldClusterN_any (a : Option Addr) (n ca r q : Nat) (w : World) (hq : q = 1 + 8 * r) (hl : r ≤ 1000) (hr : RdNc w (.slice a n ca) (ncmarks 1 r)) :
    Calls Tryz.prog 11 #[.agg #[.slice a n ca, .slice none 0 0], .int .i64 1] w fun e w' => e = .returned (.int .i64 (q : Int)) ∧ Below w.heap.size w w' := by
  have hB := below1 w (.cells #[.slice a n ca, .slice none 0 0] 25)
  have X0 := bx_new w 25 #[.slice a n ca, .slice none 0 0]
  obtain ⟨x0, x1⟩ := X0.c2
  go_enter Tryz.func11, Tryz.ntmps11
  go_wp2_with fail
  refine (heldReplicasN_any _ r 1 _ (by omega) (hr.below hB)).mono ?_
  rintro e w2 ⟨rfl, rfl⟩
  rw [← hq]
  have hq0 : ¬ (q : Int) < 0 := by omega
  have HQ : Hid (q = 1 + 8 * r) := hq
  clear hq
  go_wp2_with fail
  refine (heldMessageS_nil _ _).mono ?_
  rintro e w3 ⟨rfl, rfl⟩
  go_wp2
  go_ret
  exact ⟨rfl, hB⟩
end Go.Proofs.YtilhaokiohbeeabGreatDoor
