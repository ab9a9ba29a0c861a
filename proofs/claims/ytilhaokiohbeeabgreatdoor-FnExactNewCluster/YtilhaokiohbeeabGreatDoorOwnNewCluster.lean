/- Whatever number it is called with, laws.FnExactNewCluster returns true: both NewClusters make the same Cluster, whose Replicas are new and its own. Condition: the three listed tables of the Go library hold what its text lays there (tied by the card). -/
import Derived.Test.YtilhaokiohbeeabGreatDoorRows
import Derived.Test.YtilhaokiohbeeabGreatDoorCards
import Derived.Test.YtilhaokiohbeeabGreatDoorTie
import Derived.Test.YtilhaokiohbeeabGreatDoorNclLaw
import Derived.Test.YtilhaokiohbeeabGreatDoorLaid
import Derived.ProofKit
import Derived.OpenShut
import Derived.ShutString
import Derived.ChangeOld
import Derived.LaidMore
import Derived.SevenTiedAt
import Derived.Stop.Joined
namespace Go.Proofs.YtilhaokiohbeeabGreatDoor
open Go.ChangeShapes Go.WideShapes Go.ChangeAt Go.RowKit
theorem nclN_le {n : Int} : nclN n ≤ 7 := by
  unfold nclN
  split
  · rename_i h
    rcases srvB_iff.1 h with rfl | rfl | rfl <;> decide
  · omega
set_option maxHeartbeats 8000000 in
set_option maxRecDepth 100000 in
theorem newCluster_walk (n : Int) (hn : -9223372036854775808 ≤ n ∧ n ≤ 9223372036854775807) (w : World) :
    Calls Tryz.prog 3 #[.int .i64 n] w fun e w' => e = .returned (.bool true) ∧ Below w.heap.size w w' := by
  have HS : Hid (∀ W, Calls Tryz.prog 7 #[.int .i64 n] W fun e w' => ToNcl W n e w') := fun W => specNewCl_any n hn W
  have HI : Hid (∀ W, Calls Tryz.prog 8 #[.int .i64 n] W fun e w' => ToNcl W n e w') := fun W => implNewCl_any n hn W
  obtain ⟨b, hb⟩ : ∃ b, b = srvB n := ⟨_, rfl⟩
  have HB : Hid (b = srvB n) := hb
  obtain ⟨L, hL⟩ : ∃ L, L = nclL n (nclN n) := ⟨_, rfl⟩
  have hlen : L.length ≤ 7 := by rw [hL, nclL_len]; exact nclN_le
  have HL : Hid (L = nclL n (nclN n)) := hL
  clear hb hL hn
  have hbb : (b != b) = false := by cases b <;> rfl
  go_enter Tryz.func3, Tryz.ntmps3
  go_wp2_with fail
  refine (HS.out _).mono ?_
  rintro e w1 ⟨u0, rfl, hO0, hb1⟩
  rw [← HB.out]
  rw [← HL.out] at hO0
  obtain ⟨a0, n0, c0, rfl⟩ : ∃ a n c, u0 = .slice a n c := by
    obtain ⟨a, c, h⟩ := ownSlX hO0
    exact ⟨a, _, c, h⟩
  have Z1 := hb1.alloc hb1.size (.cells #[.slice a0 n0 c0, .slice none 0 0] 25)
  have X1 := bx_new w1 25 #[.slice a0 n0 c0, .slice none 0 0]
  have P1 := hO0.below (below1 w1 (.cells #[.slice a0 n0 c0, .slice none 0 0] 25))
  clear hb1 hO0
  go_wp2_with fail
  generalize w1.alloc (.cells #[.slice a0 n0 c0, .slice none 0 0] 25) = v1 at Z1 X1 P1 ⊢
  generalize w1.heap.size = p1 at X1 ⊢
  refine (HI.out _).mono ?_
  rintro e w2 ⟨u1, rfl, hO1, hb2⟩
  rw [← HB.out]
  rw [← HL.out] at hO1
  obtain ⟨a1, n1, c1, rfl⟩ : ∃ a n c, u1 = .slice a n c := by
    obtain ⟨a, c, h⟩ := ownSlX hO1
    exact ⟨a, _, c, h⟩
  have AP : Hid (∀ k, (Value.slice a0 n0 c0).ownBlock = some k → k ∉ oneB (Value.slice a1 n1 c1)) := fun k hk e => by
    have h1 := (World.ownsRow.lt P1 k hk).2
    have h2 := (World.ownsRow.lt hO1 k (mem_oneB.1 e)).1
    omega
  have AX : Hid (p1 ∉ oneB (Value.slice a1 n1 c1)) := fun e => by
    have h1 := X1.lt
    have h2 := (World.ownsRow.lt hO1 p1 (mem_oneB.1 e)).1
    omega
  have HG : Hid (w.heap.size ≤ v1.heap.size) := Z1.size
  have Z2 := Z1.trans (hb2.mono Z1.size)
  have bA := below1 w2 (.cells #[.slice a1 n1 c1, .slice none 0 0] 25)
  have Z3 := Z2.trans (bA.mono Z2.size)
  have X2 := (X1.below hb2).below bA
  have P2 := (P1.below hb2).below bA
  have Y2 := bx_new w2 25 #[.slice a1 n1 c1, .slice none 0 0]
  have Q2 := hO1.below bA
  clear hb2 Z1 Z2 X1 P1 hO1 bA
  obtain ⟨x0, x1⟩ := X2.c2
  obtain ⟨y0, y1⟩ := Y2.c2
  go_wp2_with fail
  generalize w2.alloc (.cells #[.slice a1 n1 c1, .slice none 0 0] 25) = v2 at Z3 X2 Y2 P2 Q2 x0 x1 y0 y1 ⊢
  generalize w2.heap.size = p2 at Y2 y0 y1 ⊢
  refine (eqClusterN_any a1 a0 n1 n0 c1 c0 L _ Q2.rd P2.rd).mono ?_
  rintro e w3 ⟨rfl, hb3⟩
  have Z4 := Z3.trans (hb3.mono Z3.size)
  have X3 := X2.below hb3
  have Y3 := Y2.below hb3
  have P3 := P2.below hb3
  have Q3 := Q2.below hb3
  clear x0 x1 y0 y1 hb3 Z3 X2 Y2 P2 Q2
  obtain ⟨x0, x1⟩ := X3.c2
  obtain ⟨y0, y1⟩ := Y3.c2
  go_wp2_with fail
  refine (markClusterN_any a1 n1 c1 _ L _ (by omega) Q3).mono ?_
  rintro e w4 ⟨rfl, Q4, hg4⟩
  have hb4 := below1 w3 (.cells #[.slice a1 n1 c1, .slice none 0 0] 25)
  have tch := Touch.of_grown hg4 (fun k hk => mem_oneB.2 hk)
  have hQ3 := Q3.below hb4
  have Z5 := tch.below (Z4.trans (hb4.mono Z4.size)) (fun k hk => Nat.le_trans HG.out (World.ownsRow.lt hQ3 k (mem_oneB.1 hk)).1)
  have X4 := (X3.below hb4).touch tch AX.out
  have Y4 := (Y3.below hb4).touch tch (fun e => (Y3.below hb4).row hQ3 (by decide) _ (mem_oneB.1 e) rfl)
  have P4 : OwnNc w4 _ (.slice a0 n0 c0) L := tch.row (P3.below hb4) AP.out
  obtain ⟨q, hq⟩ : ∃ q : Nat, q = 1 + 8 * L.length := ⟨_, rfl⟩
  rw [← hq]
  have hq0 : ¬ (q : Int) < 0 := by omega
  have hqq : ((q : Int) != (q : Int)) = false := by simp
  have HQ : Hid (q = 1 + 8 * L.length) := hq
  clear x0 x1 y0 y1 hb4 Z4 X3 Y3 P3 Q3 hQ3 tch hg4 hq
  obtain ⟨x0, x1⟩ := X4.c2
  obtain ⟨y0, y1⟩ := Y4.c2
  go_wp2_with fail
  refine (heldClusterN_any a1 n1 c1 L.length q _ HQ.out (by omega) Q4.rd).mono ?_
  rintro e w5 ⟨rfl, hb5⟩
  have Z6 := Z5.trans (hb5.mono Z5.size)
  have X5 := X4.below hb5
  have Y5 := Y4.below hb5
  have P5 := P4.below hb5
  have Q5 := Q4.below hb5
  clear x0 x1 y0 y1 hb5 Z5 X4 Y4 P4 Q4
  go_wp2_with fail
  refine (HI.out _).mono ?_
  rintro e w6 ⟨u2, rfl, hO2, hb6⟩
  rw [← HB.out]
  rw [← HL.out] at hO2
  obtain ⟨a2, n2, c2, rfl⟩ : ∃ a n c, u2 = .slice a n c := by
    obtain ⟨a, c, h⟩ := ownSlX hO2
    exact ⟨a, _, c, h⟩
  have Z7 := Z6.trans (hb6.mono Z6.size)
  have bA := below1 w6 (.cells #[.slice a2 n2 c2, .slice none 0 0] 25)
  have Z8 := Z7.trans (bA.mono Z7.size)
  have X6 := (X5.below hb6).below bA
  have Y6 := (Y5.below hb6).below bA
  have P6 := (P5.below hb6).below bA
  have Q6 := (Q5.below hb6).below bA
  have V6 := hO2.below bA
  have W6 := bx_new w6 25 #[.slice a2 n2 c2, .slice none 0 0]
  clear hb6 Z6 Z7 X5 Y5 P5 Q5 hO2 bA
  obtain ⟨x0, x1⟩ := X6.c2
  obtain ⟨y0, y1⟩ := W6.c2
  go_wp2_with fail
  generalize w6.alloc (.cells #[.slice a2 n2 c2, .slice none 0 0] 25) = v6 at Z8 X6 Y6 P6 Q6 V6 x0 x1 y0 y1 ⊢
  generalize w6.heap.size = p6 at y0 y1 ⊢
  refine (eqClusterN_any a2 a0 n2 n0 c2 c0 L _ V6.rd P6.rd).mono ?_
  rintro e w7 ⟨rfl, hb7⟩
  have Z9 := Z8.trans (hb7.mono Z8.size)
  have Y7 := Y6.below hb7
  have Q7 := Q6.below hb7
  clear x0 x1 y0 y1 hb7 Z8 X6 Y6 P6 Q6 V6 W6
  obtain ⟨y0, y1⟩ := Y7.c2
  go_wp2_with fail
  refine (heldClusterN_any a1 n1 c1 L.length q _ HQ.out (by omega) Q7.rd).mono ?_
  rintro e w8 ⟨rfl, hb8⟩
  have Za := Z9.trans (hb8.mono Z9.size)
  clear y0 y1 hb8 Z9 Y7 Q7
  go_wp2
  go_ret
  exact ⟨rfl, Za⟩
theorem lawNewCluster (n : Int) (hn : (Lit.int .i64 n).wf = true) (w : World) (_ht : Tab w) :
    Calls Tryz.prog 3 #[.int .i64 n] w fun e w' => e = .returned (.bool true) ∧ Below w.heap.size w w' := newCluster_walk n (bounds_i64 hn) w
theorem own_fnExactNewCluster : ownKnob Tryz.prog.godebug = none := by kernel_rfl
theorem door_fnExactNewCluster (os : Os) (args : Array Value) : laidMetH Tryz.prog Rows.fnExactNewClusterRow.laid ((World.doorLaid Tryz.prog 400 os).forCall (fun _ _ => 0) ⟨#[], args, []⟩).memory :=
  laidMetH_of_parts3 (fuel := 8) (laidMet_of_run' 8 (by kernel_rfl) (by kernel_rfl)) (by kernel_rfl) (by kernel_rfl)
set_option maxRecDepth 100000 in
theorem lifted_fnExactNewCluster (os : Os) (started : os.Started) (H : Type) (enc : TypeId × Value → H) :
    ReturnsInHanded {} Tryz.checked os 3 .any (fun w args => (Rows.fnExactNewClusterSpec.pre enc Tryz.prog Tryz.f3 [] false w args ∧ laidMetH Tryz.prog Rows.fnExactNewClusterRow.laid w) ∧ sizedMet enc Tryz.prog Tryz.f3 (OpenSpec.ofChange Rows.fnExactNewClusterSpec) false w args)
      (Rows.fnExactNewClusterSpec.post enc Tryz.prog Tryz.f3 false true false false) := by
  refine returnsInHanded_of_change_and (C := Tryz.checked) (X := fun w _ => laidMetH Tryz.prog Rows.fnExactNewClusterRow.laid w) (fun _ _ _ hh h => h.of_heap hh) own_fnExactNewCluster started (by kernel_rfl) Tryz.func3
    (ChangeSpec.witness_shaped (enc := enc) (C := Tryz.checked) (os := os) (X := fun w _ => laidMetH Tryz.prog Rows.fnExactNewClusterRow.laid w) false (World.doorLaid Tryz.prog 400 os) #[.int .i64 0] 8 rfl (World.shaped_of_RefB (by kernel_rfl) (by kernel_rfl)) (by kernel_rfl) (by kernel_rfl) (by kernel_rfl) (door_fnExactNewCluster os _)) ?_
  intro W base args ds gs before hval0 hW _ _ hL _
  have hval : ∀ (j : Nat) t v, Tryz.f3.params[j]? = some t → args[j]? = some v → Value.okWide Tryz.prog W .any base t v := hval0
  have hW' := hW
  obtain ⟨p, q, hA0, hV, rfl, hfz, hnd⟩ := hW
  have hA : DataW.TrodAll enc Tryz.prog W 0 (fun _ => true) true Tryz.f3.params.toList args.toList ds p := hA0
  rw [Tryz.params3] at hA hval
  obtain ⟨v0, vs0, d0, ds0, p0, q0, hargs, rfl, rfl, h0, r0⟩ := trodAll_cons hA
  obtain ⟨rfl, rfl, rfl⟩ := trodAll_nil r0
  obtain rfl : args = #[v0] := by cases args; simp_all
  obtain ⟨rfl, rfl⟩ := trodVars_none hV
  obtain ⟨a0, rfl, rfl, rfl, w0⟩ := open_int Tryz.underlying2 (hval 0 2 v0 rfl rfl) h0
  have htab := tab_of_laid hL
  clear hA0 hval0
  refine (lawNewCluster a0 w0 W htab).mono fun e W' ⟨he, bel⟩ => ?_
  subst he
  exact ⟨_, rfl, _, _, _, [], _, [], hW', trodAll_mk1 (shut_bool Tryz.underlying4 _), (trodAll_cons_mk (shut_int Tryz.underlying2 w0) trodAll_mk0), rfl, bel.frame _, fun h => by cases h⟩
theorem over_fnExactNewCluster : Rows.fnExactNewClusterRow.holds Tryz.pinned (OpenSpec.ofChange Rows.fnExactNewClusterSpec) :=
  OpenClaim.holds_of_wide 3 Tryz.f3 rfl rfl rfl rfl rfl rfl rfl ⟨rfl, rfl, rfl, rfl, rfl⟩ rfl rfl rfl rfl rfl (by kernel_rfl) Tryz.func3 (by kernel_rfl)
    (of_decide_eq_true (by kernel_rfl)) (by unfold Func.isWrapper; first | (rw [if_pos (by decide +kernel)]; kernel_rfl) | (rw [if_neg (by decide +kernel)]; exact ⟨rfl, rfl⟩))
    (fun os started H enc _ => lifted_fnExactNewCluster os started H enc)
theorem fnExactNewCluster_holds : Rows.FnExactNewClusterCardSaid :=
  Claim7.holds_tied_plain_at .later [] [.data, .data, .data] true Rows.fnExactNewClusterCard.stood.harness Rows.fnExactNewClusterCard.stood.looks
    over_fnExactNewCluster (fun _ h => by cases h) (by kernel_rfl) (fun _ h => by cases h) fnExactNewCluster_row_tie rfl ⟨rfl, rfl⟩ (by kernel_rfl) rfl
    (fun f fn hf hfn => by
      obtain rfl : f = 3 := Option.some.inj ((show Tryz.prog.funcNamed "loop.example/g00217/laws.FnExactNewCluster" = some 3 by kernel_rfl).symm.trans hf) |>.symm
      obtain rfl : fn = Tryz.f3 := (Option.some.inj (Tryz.func3.symm.trans hfn)).symm
      exact ⟨by kernel_rfl, fun j t ht => by
        rw [Tryz.params3] at ht
        have hm : t ∈ [2] := by simpa using Array.mem_of_getElem? ht
        have hall : ([2].all fun u => !Tryz.prog.wantsStandIn u) = true := by kernel_rfl
        exact (show Tryz.prog.wantsStandIn t = false by simpa using List.all_eq_true.1 hall t hm)⟩)
    (by kernel_rfl)
#print axioms fnExactNewCluster_holds

end Go.Proofs.YtilhaokiohbeeabGreatDoor
