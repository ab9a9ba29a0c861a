/- Whatever bank and move it is called with, laws.FnExactMoved returns true and its arguments read as before: both Moved tell the same, in memory of their own, and what they are handed stays. No condition. -/
-- UNF Gen
import Derived.Test.YtmgapmhjkamigabRows
import Derived.Test.YtmgapmhjkamigabBnkOpen
import Derived.Test.YtmgapmhjkamigabBnkReg
import Derived.Test.YtmgapmhjkamigabBnkMos
import Derived.Test.YtmgapmhjkamigabMovCp
import Derived.ProofKit
import Derived.OpenShut
import Derived.ShutString
import Derived.ChangeOld
namespace Go.Proofs.Ytmgapmhjkamigab
open Go.ChangeShapes Go.WideShapes Go.ChangeAt Go.RowKit
theorem mov_len (ms cs : List Int) (m : Mov) : (movM ms cs m).length ≤ ms.length ∧ (movC ms cs m).length ≤ cs.length := by
  unfold movM movC
  constructor
  · split
    · simp
    · split
      · rw [payM_len]; exact Nat.le_refl _
      · exact Nat.le_refl _
  · split
    · simp
    · split
      · unfold payC; rw [List.length_set]; exact Nat.le_refl _
      · exact Nat.le_refl _
set_option maxHeartbeats 16000000 in
set_option maxRecDepth 100000 in
theorem lawMoved (X : BkX) (m : Mov) (w : World) (hx : RdBk w X) :
    Calls Try.prog 3 #[.agg #[X.vm, X.vc], .agg #[.int .i64 m.fr, .int .i64 m.to', .int .i64 m.sum, .int .i64 m.cou]] w fun e w' => e = .returned (.bool true) ∧ Below w.heap.size w w' := by
  obtain ⟨mf, mt, ms, mc⟩ := m
  simp only
  have Q : QB w ((w.alloc (.cells #[X.vm, X.vc] 24)).alloc (.cells #[.int .i64 mf, .int .i64 mt, .int .i64 ms, .int .i64 mc] 26)) (some X) (some (26, ⟨mf, mt, ms, mc⟩)) [] := by
    have t0 := bkAt_new w X 24
    have s0 : (w.alloc (.cells #[X.vm, X.vc] 24)).heap.size = w.heap.size + 1 := by simp
    have t1 := heap_alloc_new (w.alloc (.cells #[X.vm, X.vc] 24)) (.cells #[.int .i64 mf, .int .i64 mt, .int .i64 ms, .int .i64 mc] 26)
    rw [s0] at t1
    refine ⟨below2 w _ _, fun X' e => ?_, fun t m' e => ?_, (fun i hi => by cases hi), (fun i hi => by cases hi)⟩
    · cases e
      exact t0.below (below1 _ _)
    · cases e
      exact t1
  have hV : w.heap.size + 2 ≤ ((w.alloc (.cells #[X.vm, X.vc] 24)).alloc (.cells #[.int .i64 mf, .int .i64 mt, .int .i64 ms, .int .i64 mc] 26)).heap.size := by simp
  obtain ⟨d0, d1⟩ := Q.arg X rfl
  have HSZ : Hid (Calls _ _ _ _ _) := szBank_any X _ (hx.below Q.bel)
  have HTM : Hid (∀ W, Calls Try.prog 8 #[.agg #[.int .i64 mf, .int .i64 mt, .int .i64 ms, .int .i64 mc]] W fun e w' => e = .returned (.agg #[.int .i64 mf, .int .i64 mt, .int .i64 ms, .int .i64 mc]) ∧ Below W.heap.size W w') := fun W => toMove_any ⟨mf, mt, ms, mc⟩ W
  go_enter Try.func3, Try.ntmps3
  go_wp2_with fail
  refine HSZ.out.mono ?_
  rintro e w1 ⟨hb1, z, rfl, hz⟩
  replace Q := Q.on hb1
  replace hV := Nat.le_trans hV hb1.size
  clear HSZ hb1 d0 d1
  rcases hz with hz | ⟨hz0, hsm⟩
  · subst hz
    go_wp2
    go_ret
    exact ⟨rfl, Q.bel⟩
  have hsm2 : X.mon.length + X.cnt.length ≤ 1048576 := by unfold SmallBk at hsm; omega
  have HTO : Hid (∀ W, RdBk W X → Calls Try.prog 7 #[.agg #[X.vm, X.vc]] W fun e w' => ToBk W X.mon X.cnt e w') := fun W h => toBank_any X W h hsm2
  have HSP : Hid (∀ (u v : Value) lo W, OwnBk W lo ⟨u, v, X.mon, X.cnt⟩ → Calls Try.prog 6 #[.agg #[u, v], .agg #[.int .i64 mf, .int .i64 mt, .int .i64 ms, .int .i64 mc]] W fun e w' => MovRes W (movM X.mon X.cnt ⟨mf, mt, ms, mc⟩) (movC X.mon X.cnt ⟨mf, mt, ms, mc⟩) (codR X.mon X.cnt ⟨mf, mt, ms, mc⟩) e w') := fun u v lo W h => specMoved_any ⟨u, v, X.mon, X.cnt⟩ ⟨mf, mt, ms, mc⟩ W h.rd
  have HIM : Hid (∀ (u v : Value) lo W, OwnBk W lo ⟨u, v, X.mon, X.cnt⟩ → Calls Try.prog 9 #[.agg #[u, v], .agg #[.int .i64 mf, .int .i64 mt, .int .i64 ms, .int .i64 mc]] W fun e w' => MovRes W (movM X.mon X.cnt ⟨mf, mt, ms, mc⟩) (movC X.mon X.cnt ⟨mf, mt, ms, mc⟩) (codR X.mon X.cnt ⟨mf, mt, ms, mc⟩) e w') := fun u v lo W h => implMoved_any ⟨u, v, X.mon, X.cnt⟩ ⟨mf, mt, ms, mc⟩ W h.rd hsm2
  have nl := mov_len X.mon X.cnt ⟨mf, mt, ms, mc⟩
  generalize movM X.mon X.cnt ⟨mf, mt, ms, mc⟩ = RS at HSP HIM nl
  generalize movC X.mon X.cnt ⟨mf, mt, ms, mc⟩ = RL at HSP HIM nl
  generalize codR X.mon X.cnt ⟨mf, mt, ms, mc⟩ = kk at HSP HIM
  have NLG : Hid (1 + (RS.length + RL.length) ≤ 4194304) := by unfold Hid; omega
  have NLY : Hid (1 + (X.mon.length + X.cnt.length) ≤ 4194304) := by unfold Hid; omega
  have hkk : (kk != kk) = false := by simp
  clear hsm hsm2 nl
  -- THE MODEL
  go_wp2_with fail
  refine wp_region_noPanic ?_
  refine wp_region_held_drew (S := fun W => (W.cell? ⟨w.heap.size, 0, none⟩ = some X.vm ∧ W.cell? ⟨w.heap.size, 1, none⟩ = some X.vc) ∧ (W.cell? ⟨w.heap.size + 1, 0, none⟩ = some (.int .i64 mf) ∧ W.cell? ⟨w.heap.size + 1, 1, none⟩ = some (.int .i64 mt) ∧ W.cell? ⟨w.heap.size + 1, 2, none⟩ = some (.int .i64 ms) ∧ W.cell? ⟨w.heap.size + 1, 3, none⟩ = some (.int .i64 mc))) (by kernel_rfl) ⟨Q.arg X rfl, (Q.mov _ _ rfl).facts⟩ (fun hS => ?_)
  replace Q := Q.on ((Below.refl _ _).drew)
  have hVd : w.heap.size + 2 ≤ w1.drew.heap.size := hV
  clear hV
  have hV := hVd
  clear hVd
  refine tkG 0 22 hS ?_
  try simp only [Act.put, List.setIfInBounds_toArray, List.set_cons_zero, List.set_cons_succ]
  refine tkG 2 24 hS ?_
  try simp only [Act.put, List.setIfInBounds_toArray, List.set_cons_zero, List.set_cons_succ]
  revert hS Q hV
  generalize w1.drew = V0
  intro hS Q hV
  refine wpAnyH_ready (rs := [1, 8]) (by kernel_rfl) (by simp) ?_
  refine AllReadyH.cons rfl (fun K hK => ?_) ?_
  go_simp
  refine (HTO.out _ (hx.below Q.bel)).mono ?_
  intro e V2 h2
  obtain ⟨ya, yn, yc, yd, ym, ye, rfl, oY, hb⟩ := h2.open
  clear h2
  replace oY := oY.mono (Nat.zero_le _)
  replace Q := Q.on hb
  replace hV := Nat.le_trans hV hb.size
  refine hK.out _ _ ⟨Q.arg X rfl, (Q.mov _ _ rfl).facts⟩ (fun hS2 => ?_)
  clear hK K hS hb
  have hS := hS2
  clear hS2
  try simp only [List.setIfInBounds_toArray, List.set_cons_zero, List.set_cons_succ]
  clear hS
  refine listed_asK (l' := #[true, true, true, false, false, false, false, false, false, false, false]) (by kernel_rfl) ?_
  revert oY
  revert hV
  revert Q
  revert ye
  revert ym
  revert yd
  revert yc
  revert yn
  revert ya
  revert V2
  clear V0
  refine ?ra1
  rotate_left 1
  refine AllReadyH.cons rfl (fun K hK => ?_) AllReadyH.nil
  refine step_bank rfl 6 rfl (by go_simp; (try rfl)) ?_
  have bb := below1 V0 (.cells #[.slice none 0 0, .slice none 0 0] 28)
  have hob : Hid ((∀ i ∈ ([] : List BI), i.b ≠ V0.heap.size) ∧ (∀ X', some X = some X' → w.heap.size ≠ V0.heap.size) ∧ (∀ t m, some (26, (⟨mf, mt, ms, mc⟩ : Mov)) = some (t, m) → w.heap.size + 1 ≠ V0.heap.size)) := Q.new.2
  have hob2 : w.heap.size ≤ V0.heap.size := by omega
  replace Q := Q.new.1
  replace hV := Nat.le_trans hV bb.size
  clear bb
  refine hK.out _ _ ⟨Q.arg X rfl, (Q.mov _ _ rfl).facts⟩ (fun hS2 => ?_)
  clear hK K hS
  try simp only [Act.put, List.setIfInBounds_toArray, List.set_cons_zero, List.set_cons_succ]
  revert hS2
  revert hob2
  revert hob
  revert hV
  revert Q
  generalize V0.alloc (.cells #[.slice none 0 0, .slice none 0 0] 28) = V2
  generalize V0.heap.size = zb
  intro Q hV hob hob2 hS2
  have hS := hS2
  clear hS2
  clear hS
  refine listed_asK (l' := #[true, false, true, false, false, false, false, false, true, false, false]) (by kernel_rfl) ?_
  revert hob2
  revert hob
  revert hV
  revert Q
  revert zb
  revert V2
  clear V0
  refine ?ra8
  rotate_left 1
  intro V0 ya yn yc yd ym ye Q hV oY
  have hS : (fun W => (W.cell? ⟨w.heap.size, 0, none⟩ = some X.vm ∧ W.cell? ⟨w.heap.size, 1, none⟩ = some X.vc) ∧ (W.cell? ⟨w.heap.size + 1, 0, none⟩ = some (.int .i64 mf) ∧ W.cell? ⟨w.heap.size + 1, 1, none⟩ = some (.int .i64 mt) ∧ W.cell? ⟨w.heap.size + 1, 2, none⟩ = some (.int .i64 ms) ∧ W.cell? ⟨w.heap.size + 1, 3, none⟩ = some (.int .i64 mc))) V0 := ⟨Q.arg X rfl, (Q.mov _ _ rfl).facts⟩
  refine wpAnyH_ready (rs := [3, 8]) (by kernel_rfl) (by simp) ?_
  refine AllReadyH.cons rfl (fun K hK => ?_) ?_
  go_simp
  refine (HTM.out _).mono ?_
  rintro e V2 ⟨rfl, hb⟩
  replace oY := oY.below hb
  replace Q := Q.on hb
  replace hV := Nat.le_trans hV hb.size
  refine hK.out _ _ ⟨Q.arg X rfl, (Q.mov _ _ rfl).facts⟩ (fun hS2 => ?_)
  clear hK K hS hb
  have hS := hS2
  clear hS2
  try simp only [List.setIfInBounds_toArray, List.set_cons_zero, List.set_cons_succ]
  clear hS
  refine listed_asK (l' := #[true, true, true, true, false, false, false, false, false, false, false]) (by kernel_rfl) ?_
  revert oY
  revert hV
  revert Q
  revert ye
  revert ym
  revert yd
  revert yc
  revert yn
  revert ya
  revert V2
  clear V0
  refine ?ra13
  rotate_left 1
  refine AllReadyH.cons rfl (fun K hK => ?_) AllReadyH.nil
  refine step_bank rfl 6 rfl (by go_simp; (try rfl)) ?_
  have bb := below1 V0 (.cells #[.slice none 0 0, .slice none 0 0] 28)
  have hob : Hid ((∀ i ∈ ([] : List BI), i.b ≠ V0.heap.size) ∧ (∀ X', some X = some X' → w.heap.size ≠ V0.heap.size) ∧ (∀ t m, some (26, (⟨mf, mt, ms, mc⟩ : Mov)) = some (t, m) → w.heap.size + 1 ≠ V0.heap.size)) := Q.new.2
  have hob2 : w.heap.size ≤ V0.heap.size := by omega
  replace oY := oY.below bb
  replace Q := Q.new.1
  replace hV := Nat.le_trans hV bb.size
  clear bb
  refine hK.out _ _ ⟨Q.arg X rfl, (Q.mov _ _ rfl).facts⟩ (fun hS2 => ?_)
  clear hK K hS
  try simp only [Act.put, List.setIfInBounds_toArray, List.set_cons_zero, List.set_cons_succ]
  revert hS2
  revert hob2
  revert hob
  revert oY
  revert hV
  revert Q
  generalize V0.alloc (.cells #[.slice none 0 0, .slice none 0 0] 28) = V2
  generalize V0.heap.size = zb
  intro Q hV oY hob hob2 hS2
  have hS := hS2
  clear hS2
  clear hS
  refine listed_asK (l' := #[true, true, true, false, false, false, false, false, true, false, false]) (by kernel_rfl) ?_
  revert hob2
  revert hob
  revert oY
  revert hV
  revert Q
  revert zb
  revert ye
  revert ym
  revert yd
  revert yc
  revert yn
  revert ya
  revert V2
  clear V0
  refine ?ra18
  rotate_left 1
  intro V0 zb Q hV hob hob2
  have hS : (fun W => (W.cell? ⟨w.heap.size, 0, none⟩ = some X.vm ∧ W.cell? ⟨w.heap.size, 1, none⟩ = some X.vc) ∧ (W.cell? ⟨w.heap.size + 1, 0, none⟩ = some (.int .i64 mf) ∧ W.cell? ⟨w.heap.size + 1, 1, none⟩ = some (.int .i64 mt) ∧ W.cell? ⟨w.heap.size + 1, 2, none⟩ = some (.int .i64 ms) ∧ W.cell? ⟨w.heap.size + 1, 3, none⟩ = some (.int .i64 mc))) V0 := ⟨Q.arg X rfl, (Q.mov _ _ rfl).facts⟩
  refine wpAnyH_ready (rs := [1]) (by kernel_rfl) (by simp) ?_
  refine AllReadyH.cons rfl (fun K hK => ?_) AllReadyH.nil
  go_simp
  refine (HTO.out _ (hx.below Q.bel)).mono ?_
  intro e V2 h2
  obtain ⟨ya, yn, yc, yd, ym, ye, rfl, oY, hb⟩ := h2.open
  clear h2
  replace oY := oY.mono (Nat.zero_le _)
  replace Q := Q.on hb
  replace hV := Nat.le_trans hV hb.size
  refine hK.out _ _ ⟨Q.arg X rfl, (Q.mov _ _ rfl).facts⟩ (fun hS2 => ?_)
  clear hK K hS hb
  have hS := hS2
  clear hS2
  try simp only [List.setIfInBounds_toArray, List.set_cons_zero, List.set_cons_succ]
  clear hS
  refine listed_asK (l' := #[true, true, true, false, false, false, false, false, true, false, false]) (by kernel_rfl) ?_
  revert hob2
  revert hob
  revert oY
  revert hV
  revert Q
  revert zb
  revert ye
  revert ym
  revert yd
  revert yc
  revert yn
  revert ya
  revert V2
  clear V0
  exact ?ra18
  intro V0 ya yn yc yd ym ye Q hV oY
  have hS : (fun W => (W.cell? ⟨w.heap.size, 0, none⟩ = some X.vm ∧ W.cell? ⟨w.heap.size, 1, none⟩ = some X.vc) ∧ (W.cell? ⟨w.heap.size + 1, 0, none⟩ = some (.int .i64 mf) ∧ W.cell? ⟨w.heap.size + 1, 1, none⟩ = some (.int .i64 mt) ∧ W.cell? ⟨w.heap.size + 1, 2, none⟩ = some (.int .i64 ms) ∧ W.cell? ⟨w.heap.size + 1, 3, none⟩ = some (.int .i64 mc))) V0 := ⟨Q.arg X rfl, (Q.mov _ _ rfl).facts⟩
  refine wpAnyH_ready (rs := [4, 8]) (by kernel_rfl) (by simp) ?_
  refine AllReadyH.cons rfl (fun K hK => ?_) ?_
  go_simp
  refine (HSP.out _ _ _ _ oY).mono ?_
  intro e V2 h2
  obtain ⟨za, zn, zc, zd, zm, ze, rfl, oZ, hb⟩ := h2.open
  clear h2
  have APz : Hid (∀ i ∈ ([] : List BI), ∀ k ∈ bkB i.Y, k ∉ bkB ⟨.slice za zn zc, .slice zd zm ze, RS, RL⟩) := fun i hi k hk e => by have h3 := ((Q.ow i (hi)).bound hk).2; have h4 := (oZ.bound e).1; omega
  have hloz : w.heap.size + 2 ≤ V0.heap.size := hV
  generalize V0.heap.size = loz at oZ hloz
  clear oY
  replace Q := Q.on hb
  replace hV := Nat.le_trans hV hb.size
  refine hK.out _ _ ⟨Q.arg X rfl, (Q.mov _ _ rfl).facts⟩ (fun hS2 => ?_)
  clear hK K hS hb
  have hS := hS2
  clear hS2
  try simp only [List.setIfInBounds_toArray, List.set_cons_zero, List.set_cons_succ]
  refine tkG 5 21 hS ?_
  try simp only [Act.put, List.setIfInBounds_toArray, List.set_cons_zero, List.set_cons_succ]
  refine tkG 6 27 hS ?_
  try simp only [Act.put, List.setIfInBounds_toArray, List.set_cons_zero, List.set_cons_succ]
  refine tkG 7 28 hS ?_
  try simp only [Act.put, List.setIfInBounds_toArray, List.set_cons_zero, List.set_cons_succ]
  clear hS
  refine listed_asK (l' := #[true, true, true, true, true, true, true, true, false, false, false]) (by kernel_rfl) ?_
  revert APz
  revert hloz
  revert oZ
  revert hV
  revert Q
  revert loz
  revert ze
  revert zm
  revert zd
  revert zc
  revert zn
  revert za
  revert ye
  revert ym
  revert yd
  revert yc
  revert yn
  revert ya
  revert V2
  clear V0
  refine ?ra134
  rotate_left 1
  refine AllReadyH.cons rfl (fun K hK => ?_) AllReadyH.nil
  refine step_bank rfl 6 rfl (by go_simp; (try rfl)) ?_
  have bb := below1 V0 (.cells #[.slice none 0 0, .slice none 0 0] 28)
  have hob : Hid ((∀ i ∈ ([] : List BI), i.b ≠ V0.heap.size) ∧ (∀ X', some X = some X' → w.heap.size ≠ V0.heap.size) ∧ (∀ t m, some (26, (⟨mf, mt, ms, mc⟩ : Mov)) = some (t, m) → w.heap.size + 1 ≠ V0.heap.size)) := Q.new.2
  have hob2 : w.heap.size ≤ V0.heap.size := by omega
  replace oY := oY.below bb
  replace Q := Q.new.1
  replace hV := Nat.le_trans hV bb.size
  clear bb
  refine hK.out _ _ ⟨Q.arg X rfl, (Q.mov _ _ rfl).facts⟩ (fun hS2 => ?_)
  clear hK K hS
  try simp only [Act.put, List.setIfInBounds_toArray, List.set_cons_zero, List.set_cons_succ]
  revert hS2
  revert hob2
  revert hob
  revert oY
  revert hV
  revert Q
  generalize V0.alloc (.cells #[.slice none 0 0, .slice none 0 0] 28) = V2
  generalize V0.heap.size = zb
  intro Q hV oY hob hob2 hS2
  have hS := hS2
  clear hS2
  clear hS
  refine listed_asK (l' := #[true, true, true, true, false, false, false, false, true, false, false]) (by kernel_rfl) ?_
  revert hob2
  revert hob
  revert oY
  revert hV
  revert Q
  revert zb
  revert ye
  revert ym
  revert yd
  revert yc
  revert yn
  revert ya
  revert V2
  clear V0
  refine ?ra138
  rotate_left 1
  intro V0 ya yn yc yd ym ye zb Q hV oY hob hob2
  have hS : (fun W => (W.cell? ⟨w.heap.size, 0, none⟩ = some X.vm ∧ W.cell? ⟨w.heap.size, 1, none⟩ = some X.vc) ∧ (W.cell? ⟨w.heap.size + 1, 0, none⟩ = some (.int .i64 mf) ∧ W.cell? ⟨w.heap.size + 1, 1, none⟩ = some (.int .i64 mt) ∧ W.cell? ⟨w.heap.size + 1, 2, none⟩ = some (.int .i64 ms) ∧ W.cell? ⟨w.heap.size + 1, 3, none⟩ = some (.int .i64 mc))) V0 := ⟨Q.arg X rfl, (Q.mov _ _ rfl).facts⟩
  refine wpAnyH_ready (rs := [3]) (by kernel_rfl) (by simp) ?_
  refine AllReadyH.cons rfl (fun K hK => ?_) AllReadyH.nil
  go_simp
  refine (HTM.out _).mono ?_
  rintro e V2 ⟨rfl, hb⟩
  replace oY := oY.below hb
  replace Q := Q.on hb
  replace hV := Nat.le_trans hV hb.size
  refine hK.out _ _ ⟨Q.arg X rfl, (Q.mov _ _ rfl).facts⟩ (fun hS2 => ?_)
  clear hK K hS hb
  have hS := hS2
  clear hS2
  try simp only [List.setIfInBounds_toArray, List.set_cons_zero, List.set_cons_succ]
  clear hS
  refine listed_asK (l' := #[true, true, true, true, false, false, false, false, true, false, false]) (by kernel_rfl) ?_
  revert hob2
  revert hob
  revert oY
  revert hV
  revert Q
  revert zb
  revert ye
  revert ym
  revert yd
  revert yc
  revert yn
  revert ya
  revert V2
  clear V0
  exact ?ra138
  intro V0 ya yn yc yd ym ye za zn zc zd zm ze loz Q hV oZ hloz APz
  have hS : (fun W => (W.cell? ⟨w.heap.size, 0, none⟩ = some X.vm ∧ W.cell? ⟨w.heap.size, 1, none⟩ = some X.vc) ∧ (W.cell? ⟨w.heap.size + 1, 0, none⟩ = some (.int .i64 mf) ∧ W.cell? ⟨w.heap.size + 1, 1, none⟩ = some (.int .i64 mt) ∧ W.cell? ⟨w.heap.size + 1, 2, none⟩ = some (.int .i64 ms) ∧ W.cell? ⟨w.heap.size + 1, 3, none⟩ = some (.int .i64 mc))) V0 := ⟨Q.arg X rfl, (Q.mov _ _ rfl).facts⟩
  refine wpAnyH_ready (rs := [8]) (by kernel_rfl) (by simp) ?_
  refine AllReadyH.cons rfl (fun K hK => ?_) AllReadyH.nil
  refine step_bank rfl 6 rfl (by go_simp; (try rfl)) ?_
  have bb := below1 V0 (.cells #[.slice none 0 0, .slice none 0 0] 28)
  have hob : Hid ((∀ i ∈ ([] : List BI), i.b ≠ V0.heap.size) ∧ (∀ X', some X = some X' → w.heap.size ≠ V0.heap.size) ∧ (∀ t m, some (26, (⟨mf, mt, ms, mc⟩ : Mov)) = some (t, m) → w.heap.size + 1 ≠ V0.heap.size)) := Q.new.2
  have hob2 : w.heap.size ≤ V0.heap.size := by omega
  replace oZ := oZ.below bb
  replace Q := Q.new.1
  replace hV := Nat.le_trans hV bb.size
  clear bb
  refine hK.out _ _ ⟨Q.arg X rfl, (Q.mov _ _ rfl).facts⟩ (fun hS2 => ?_)
  clear hK K hS
  try simp only [Act.put, List.setIfInBounds_toArray, List.set_cons_zero, List.set_cons_succ]
  revert hS2
  revert hob2
  revert hob
  revert oZ
  revert hV
  revert Q
  generalize V0.alloc (.cells #[.slice none 0 0, .slice none 0 0] 28) = V2
  generalize V0.heap.size = zb
  intro Q hV oZ hob hob2 hS2
  have hS := hS2
  clear hS2
  clear hS
  refine listed_asK (l' := #[true, true, true, true, true, true, true, true, true, false, false]) (by kernel_rfl) ?_
  revert hob2
  revert hob
  revert APz
  revert hloz
  revert oZ
  revert hV
  revert Q
  revert zb
  revert loz
  revert ze
  revert zm
  revert zd
  revert zc
  revert zn
  revert za
  revert ye
  revert ym
  revert yd
  revert yc
  revert yn
  revert ya
  revert V2
  clear V0
  refine ?ra1348
  rotate_left 1
  intro V0 ya yn yc yd ym ye zb Q hV oY hob hob2
  have hS : (fun W => (W.cell? ⟨w.heap.size, 0, none⟩ = some X.vm ∧ W.cell? ⟨w.heap.size, 1, none⟩ = some X.vc) ∧ (W.cell? ⟨w.heap.size + 1, 0, none⟩ = some (.int .i64 mf) ∧ W.cell? ⟨w.heap.size + 1, 1, none⟩ = some (.int .i64 mt) ∧ W.cell? ⟨w.heap.size + 1, 2, none⟩ = some (.int .i64 ms) ∧ W.cell? ⟨w.heap.size + 1, 3, none⟩ = some (.int .i64 mc))) V0 := ⟨Q.arg X rfl, (Q.mov _ _ rfl).facts⟩
  refine wpAnyH_ready (rs := [4]) (by kernel_rfl) (by simp) ?_
  refine AllReadyH.cons rfl (fun K hK => ?_) AllReadyH.nil
  go_simp
  refine (HSP.out _ _ _ _ oY).mono ?_
  intro e V2 h2
  obtain ⟨za, zn, zc, zd, zm, ze, rfl, oZ, hb⟩ := h2.open
  clear h2
  have APz : Hid (∀ i ∈ ([] : List BI), ∀ k ∈ bkB i.Y, k ∉ bkB ⟨.slice za zn zc, .slice zd zm ze, RS, RL⟩) := fun i hi k hk e => by have h3 := ((Q.ow i (List.mem_cons_of_mem _ hi)).bound hk).2; have h4 := (oZ.bound e).1; omega
  have hloz : w.heap.size + 2 ≤ V0.heap.size := hV
  generalize V0.heap.size = loz at oZ hloz
  clear oY
  replace Q := Q.on hb
  replace hV := Nat.le_trans hV hb.size
  refine hK.out _ _ ⟨Q.arg X rfl, (Q.mov _ _ rfl).facts⟩ (fun hS2 => ?_)
  clear hK K hS hb
  have hS := hS2
  clear hS2
  try simp only [List.setIfInBounds_toArray, List.set_cons_zero, List.set_cons_succ]
  refine tkG 5 21 hS ?_
  try simp only [Act.put, List.setIfInBounds_toArray, List.set_cons_zero, List.set_cons_succ]
  refine tkG 6 27 hS ?_
  try simp only [Act.put, List.setIfInBounds_toArray, List.set_cons_zero, List.set_cons_succ]
  refine tkG 7 28 hS ?_
  try simp only [Act.put, List.setIfInBounds_toArray, List.set_cons_zero, List.set_cons_succ]
  clear hS
  refine listed_asK (l' := #[true, true, true, true, true, true, true, true, true, false, false]) (by kernel_rfl) ?_
  revert hob2
  revert hob
  revert APz
  revert hloz
  revert oZ
  revert hV
  revert Q
  revert zb
  revert loz
  revert ze
  revert zm
  revert zd
  revert zc
  revert zn
  revert za
  revert ye
  revert ym
  revert yd
  revert yc
  revert yn
  revert ya
  revert V2
  clear V0
  exact ?ra1348
  intro V0 ya yn yc yd ym ye za zn zc zd zm ze loz zb Q hV oZ hloz APz hob hob2
  have hS : (fun W => (W.cell? ⟨w.heap.size, 0, none⟩ = some X.vm ∧ W.cell? ⟨w.heap.size, 1, none⟩ = some X.vc) ∧ (W.cell? ⟨w.heap.size + 1, 0, none⟩ = some (.int .i64 mf) ∧ W.cell? ⟨w.heap.size + 1, 1, none⟩ = some (.int .i64 mt) ∧ W.cell? ⟨w.heap.size + 1, 2, none⟩ = some (.int .i64 ms) ∧ W.cell? ⟨w.heap.size + 1, 3, none⟩ = some (.int .i64 mc))) V0 := ⟨Q.arg X rfl, (Q.mov _ _ rfl).facts⟩
  obtain ⟨g0, g1, g2, g3⟩ := (Q.bx ⟨zb, zb, ⟨.slice none 0 0, .slice none 0 0, [], []⟩⟩ (by simp)).facts
  simp only at g0 g1
  have Q2 := QB.fill (Y := ⟨.slice za zn zc, .slice zd zm ze, RS, RL⟩) Q oZ hob.out hob2
  refine wpAnyH_ready (rs := [9]) (by kernel_rfl) (by simp) ?_
  refine AllReadyH.cons rfl (fun K hK => ?_) AllReadyH.nil
  go_simp
  refine hK.out _ _ ⟨Q2.arg X rfl, (Q2.mov _ _ rfl).facts⟩ (fun hS2 => ?_)
  clear hK K hS
  have hS := hS2
  clear hS2 g0 g1 g2 g3 Q oZ
  have Q := Q2
  clear Q2
  refine tkG 10 7 hS ?_
  try simp only [Act.put, List.setIfInBounds_toArray, List.set_cons_zero, List.set_cons_succ]
  refine wpAnyH_done (by kernel_rfl) ?_ _
  refine NoPanic.normal ?_
  clear hS
  replace hV : w.heap.size + 2 ≤ ((V0.setCell ⟨zb, 0, none⟩ (.slice za zn zc)).setCell ⟨zb, 1, none⟩ (.slice zd zm ze)).heap.size := by simpa using hV
  generalize ((V0.setCell ⟨zb, 0, none⟩ (.slice za zn zc)).setCell ⟨zb, 1, none⟩ (.slice zd zm ze)) = Vz at Q hV ⊢
  clear APz
  -- THE ARGUMENT
  obtain ⟨d0, d1⟩ := Q.arg X rfl
  go_wp2_with fail
  refine (HTO.out _ (hx.below Q.bel)).mono ?_
  intro e w2 h2
  obtain ⟨ua, un, uc, ud, um, ue, rfl, oU, hb2⟩ := h2.open
  have APu : Hid (∀ i ∈ ([⟨zb, loz, ⟨.slice za zn zc, .slice zd zm ze, RS, RL⟩⟩] : List BI), ∀ k ∈ bkB ⟨.slice ua un uc, .slice ud um ue, X.mon, X.cnt⟩, k ∉ bkB i.Y) := fun i hi k hk e => by have h3 := ((Q.ow i hi).bound e).2; have h4 := (oU.bound hk).1; omega
  have hlou : w.heap.size + 2 ≤ Vz.heap.size := hV
  generalize Vz.heap.size = lou at oU hlou
  replace hV := Nat.le_trans hV hb2.size
  have QA := (Q.on hb2).on (below1 w2 (.cells #[.slice ua un uc, .slice ud um ue] 28))
  have bxn : Hid (∀ i ∈ ([⟨zb, loz, ⟨.slice za zn zc, .slice zd zm ze, RS, RL⟩⟩] : List BI), i.b ≠ w2.heap.size) := fun i hi e => by have := ((Q.on hb2).bx i hi).lt; omega
  replace Q := QB.put (Y := ⟨.slice ua un uc, .slice ud um ue, X.mon, X.cnt⟩) QA (boxBk_new _ _ _) (oU.below (below1 _ _))
  have hV2 : w.heap.size + 2 ≤ (w2.alloc (.cells #[.slice ua un uc, .slice ud um ue] 28)).heap.size := by simp; omega
  clear h2 d0 d1 hb2 oU QA hV
  have hV := hV2
  clear hV2
  generalize hub : w2.heap.size = ub at Q bxn
  have HWX : Hid (w2.heap.size = ub) := hub
  clear hub
  go_wp2_with fail
  rw [HWX.out]
  clear HWX
  generalize w2.alloc (.cells #[.slice ua un uc, .slice ud um ue] 28) = W2 at Q hV ⊢
  -- THE PROGRAM
  refine wp_region_noPanic ?_
  refine wp_region_held_drew (S := fun W => (W.cell? ⟨ub, 0, none⟩ = some (.slice ua un uc) ∧ W.cell? ⟨ub, 1, none⟩ = some (.slice ud um ue)) ∧ (W.cell? ⟨w.heap.size + 1, 0, none⟩ = some (.int .i64 mf) ∧ W.cell? ⟨w.heap.size + 1, 1, none⟩ = some (.int .i64 mt) ∧ W.cell? ⟨w.heap.size + 1, 2, none⟩ = some (.int .i64 ms) ∧ W.cell? ⟨w.heap.size + 1, 3, none⟩ = some (.int .i64 mc))) (by kernel_rfl) ⟨⟨(Q.bx ⟨ub, lou, ⟨.slice ua un uc, .slice ud um ue, X.mon, X.cnt⟩⟩ (by simp)).facts.1, (Q.bx ⟨ub, lou, ⟨.slice ua un uc, .slice ud um ue, X.mon, X.cnt⟩⟩ (by simp)).facts.2.1⟩, (Q.mov _ _ rfl).facts⟩ (fun hS => ?_)
  replace Q := Q.on ((Below.refl _ _).drew)
  have hVd : w.heap.size + 2 ≤ W2.drew.heap.size := hV
  clear hV
  have hV := hVd
  clear hVd
  refine tkG 0 32 hS ?_
  try simp only [Act.put, List.setIfInBounds_toArray, List.set_cons_zero, List.set_cons_succ]
  refine tkG 1 33 hS ?_
  try simp only [Act.put, List.setIfInBounds_toArray, List.set_cons_zero, List.set_cons_succ]
  revert hS Q hV
  generalize W2.drew = V0
  intro hS Q hV
  refine wpAnyH_ready (rs := [2, 7]) (by kernel_rfl) (by simp) ?_
  refine AllReadyH.cons rfl (fun K hK => ?_) ?_
  go_simp
  refine (HTM.out _).mono ?_
  rintro e V2 ⟨rfl, hb⟩
  replace Q := Q.on hb
  replace hV := Nat.le_trans hV hb.size
  refine hK.out _ _ ⟨⟨(Q.bx ⟨ub, lou, ⟨.slice ua un uc, .slice ud um ue, X.mon, X.cnt⟩⟩ (by simp)).facts.1, (Q.bx ⟨ub, lou, ⟨.slice ua un uc, .slice ud um ue, X.mon, X.cnt⟩⟩ (by simp)).facts.2.1⟩, (Q.mov _ _ rfl).facts⟩ (fun hS2 => ?_)
  clear hK K hS hb
  have hS := hS2
  clear hS2
  try simp only [List.setIfInBounds_toArray, List.set_cons_zero, List.set_cons_succ]
  clear hS
  refine listed_asK (l' := #[true, true, true, false, false, false, false, false, false, false]) (by kernel_rfl) ?_
  revert hV
  revert Q
  revert V2
  clear V0
  refine ?rb2
  rotate_left 1
  refine AllReadyH.cons rfl (fun K hK => ?_) AllReadyH.nil
  refine step_bank rfl 9 rfl (by go_simp; (try rfl)) ?_
  have bb := below1 V0 (.cells #[.slice none 0 0, .slice none 0 0] 28)
  have hob : Hid ((∀ i ∈ ([⟨ub, lou, ⟨.slice ua un uc, .slice ud um ue, X.mon, X.cnt⟩⟩, ⟨zb, loz, ⟨.slice za zn zc, .slice zd zm ze, RS, RL⟩⟩] : List BI), i.b ≠ V0.heap.size) ∧ (∀ X', some X = some X' → w.heap.size ≠ V0.heap.size) ∧ (∀ t m, some (26, (⟨mf, mt, ms, mc⟩ : Mov)) = some (t, m) → w.heap.size + 1 ≠ V0.heap.size)) := Q.new.2
  have hob2 : w.heap.size ≤ V0.heap.size := by omega
  replace Q := Q.new.1
  replace hV := Nat.le_trans hV bb.size
  clear bb
  refine hK.out _ _ ⟨⟨(Q.bx ⟨ub, lou, ⟨.slice ua un uc, .slice ud um ue, X.mon, X.cnt⟩⟩ (by simp)).facts.1, (Q.bx ⟨ub, lou, ⟨.slice ua un uc, .slice ud um ue, X.mon, X.cnt⟩⟩ (by simp)).facts.2.1⟩, (Q.mov _ _ rfl).facts⟩ (fun hS2 => ?_)
  clear hK K hS
  try simp only [Act.put, List.setIfInBounds_toArray, List.set_cons_zero, List.set_cons_succ]
  revert hS2
  revert hob2
  revert hob
  revert hV
  revert Q
  generalize V0.alloc (.cells #[.slice none 0 0, .slice none 0 0] 28) = V2
  generalize V0.heap.size = gb
  intro Q hV hob hob2 hS2
  have hS := hS2
  clear hS2
  clear hS
  refine listed_asK (l' := #[true, true, false, false, false, false, false, true, false, false]) (by kernel_rfl) ?_
  revert hob2
  revert hob
  revert hV
  revert Q
  revert gb
  revert V2
  clear V0
  refine ?rb7
  rotate_left 1
  intro V0 Q hV
  have hS : (fun W => (W.cell? ⟨ub, 0, none⟩ = some (.slice ua un uc) ∧ W.cell? ⟨ub, 1, none⟩ = some (.slice ud um ue)) ∧ (W.cell? ⟨w.heap.size + 1, 0, none⟩ = some (.int .i64 mf) ∧ W.cell? ⟨w.heap.size + 1, 1, none⟩ = some (.int .i64 mt) ∧ W.cell? ⟨w.heap.size + 1, 2, none⟩ = some (.int .i64 ms) ∧ W.cell? ⟨w.heap.size + 1, 3, none⟩ = some (.int .i64 mc))) V0 := ⟨⟨(Q.bx ⟨ub, lou, ⟨.slice ua un uc, .slice ud um ue, X.mon, X.cnt⟩⟩ (by simp)).facts.1, (Q.bx ⟨ub, lou, ⟨.slice ua un uc, .slice ud um ue, X.mon, X.cnt⟩⟩ (by simp)).facts.2.1⟩, (Q.mov _ _ rfl).facts⟩
  refine wpAnyH_ready (rs := [3, 7]) (by kernel_rfl) (by simp) ?_
  refine AllReadyH.cons rfl (fun K hK => ?_) ?_
  go_simp
  refine (HIM.out _ _ lou _ (Q.ow ⟨ub, lou, ⟨.slice ua un uc, .slice ud um ue, X.mon, X.cnt⟩⟩ (by simp))).mono ?_
  intro e V2 h2
  obtain ⟨ga, gn, gc, gd, gm, ge, rfl, oZ, hb⟩ := h2.open
  clear h2
  have APg : Hid (∀ i ∈ ([⟨ub, lou, ⟨.slice ua un uc, .slice ud um ue, X.mon, X.cnt⟩⟩, ⟨zb, loz, ⟨.slice za zn zc, .slice zd zm ze, RS, RL⟩⟩] : List BI), ∀ k ∈ bkB i.Y, k ∉ bkB ⟨.slice ga gn gc, .slice gd gm ge, RS, RL⟩) := fun i hi k hk e => by have h3 := ((Q.ow i (hi)).bound hk).2; have h4 := (oZ.bound e).1; omega
  have hlog : w.heap.size + 2 ≤ V0.heap.size := hV
  generalize V0.heap.size = log at oZ hlog
  replace Q := Q.on hb
  replace hV := Nat.le_trans hV hb.size
  refine hK.out _ _ ⟨⟨(Q.bx ⟨ub, lou, ⟨.slice ua un uc, .slice ud um ue, X.mon, X.cnt⟩⟩ (by simp)).facts.1, (Q.bx ⟨ub, lou, ⟨.slice ua un uc, .slice ud um ue, X.mon, X.cnt⟩⟩ (by simp)).facts.2.1⟩, (Q.mov _ _ rfl).facts⟩ (fun hS2 => ?_)
  clear hK K hS hb
  have hS := hS2
  clear hS2
  try simp only [List.setIfInBounds_toArray, List.set_cons_zero, List.set_cons_succ]
  refine tkG 4 31 hS ?_
  try simp only [Act.put, List.setIfInBounds_toArray, List.set_cons_zero, List.set_cons_succ]
  refine tkG 5 36 hS ?_
  try simp only [Act.put, List.setIfInBounds_toArray, List.set_cons_zero, List.set_cons_succ]
  refine tkG 6 37 hS ?_
  try simp only [Act.put, List.setIfInBounds_toArray, List.set_cons_zero, List.set_cons_succ]
  clear hS
  refine listed_asK (l' := #[true, true, true, true, true, true, true, false, false, false]) (by kernel_rfl) ?_
  revert APg
  revert hlog
  revert oZ
  revert hV
  revert Q
  revert log
  revert ge
  revert gm
  revert gd
  revert gc
  revert gn
  revert ga
  revert V2
  clear V0
  refine ?rb23
  rotate_left 1
  refine AllReadyH.cons rfl (fun K hK => ?_) AllReadyH.nil
  refine step_bank rfl 9 rfl (by go_simp; (try rfl)) ?_
  have bb := below1 V0 (.cells #[.slice none 0 0, .slice none 0 0] 28)
  have hob : Hid ((∀ i ∈ ([⟨ub, lou, ⟨.slice ua un uc, .slice ud um ue, X.mon, X.cnt⟩⟩, ⟨zb, loz, ⟨.slice za zn zc, .slice zd zm ze, RS, RL⟩⟩] : List BI), i.b ≠ V0.heap.size) ∧ (∀ X', some X = some X' → w.heap.size ≠ V0.heap.size) ∧ (∀ t m, some (26, (⟨mf, mt, ms, mc⟩ : Mov)) = some (t, m) → w.heap.size + 1 ≠ V0.heap.size)) := Q.new.2
  have hob2 : w.heap.size ≤ V0.heap.size := by omega
  replace Q := Q.new.1
  replace hV := Nat.le_trans hV bb.size
  clear bb
  refine hK.out _ _ ⟨⟨(Q.bx ⟨ub, lou, ⟨.slice ua un uc, .slice ud um ue, X.mon, X.cnt⟩⟩ (by simp)).facts.1, (Q.bx ⟨ub, lou, ⟨.slice ua un uc, .slice ud um ue, X.mon, X.cnt⟩⟩ (by simp)).facts.2.1⟩, (Q.mov _ _ rfl).facts⟩ (fun hS2 => ?_)
  clear hK K hS
  try simp only [Act.put, List.setIfInBounds_toArray, List.set_cons_zero, List.set_cons_succ]
  revert hS2
  revert hob2
  revert hob
  revert hV
  revert Q
  generalize V0.alloc (.cells #[.slice none 0 0, .slice none 0 0] 28) = V2
  generalize V0.heap.size = gb
  intro Q hV hob hob2 hS2
  have hS := hS2
  clear hS2
  clear hS
  refine listed_asK (l' := #[true, true, true, false, false, false, false, true, false, false]) (by kernel_rfl) ?_
  revert hob2
  revert hob
  revert hV
  revert Q
  revert gb
  revert V2
  clear V0
  refine ?rb27
  rotate_left 1
  intro V0 gb Q hV hob hob2
  have hS : (fun W => (W.cell? ⟨ub, 0, none⟩ = some (.slice ua un uc) ∧ W.cell? ⟨ub, 1, none⟩ = some (.slice ud um ue)) ∧ (W.cell? ⟨w.heap.size + 1, 0, none⟩ = some (.int .i64 mf) ∧ W.cell? ⟨w.heap.size + 1, 1, none⟩ = some (.int .i64 mt) ∧ W.cell? ⟨w.heap.size + 1, 2, none⟩ = some (.int .i64 ms) ∧ W.cell? ⟨w.heap.size + 1, 3, none⟩ = some (.int .i64 mc))) V0 := ⟨⟨(Q.bx ⟨ub, lou, ⟨.slice ua un uc, .slice ud um ue, X.mon, X.cnt⟩⟩ (by simp)).facts.1, (Q.bx ⟨ub, lou, ⟨.slice ua un uc, .slice ud um ue, X.mon, X.cnt⟩⟩ (by simp)).facts.2.1⟩, (Q.mov _ _ rfl).facts⟩
  refine wpAnyH_ready (rs := [2]) (by kernel_rfl) (by simp) ?_
  refine AllReadyH.cons rfl (fun K hK => ?_) AllReadyH.nil
  go_simp
  refine (HTM.out _).mono ?_
  rintro e V2 ⟨rfl, hb⟩
  replace Q := Q.on hb
  replace hV := Nat.le_trans hV hb.size
  refine hK.out _ _ ⟨⟨(Q.bx ⟨ub, lou, ⟨.slice ua un uc, .slice ud um ue, X.mon, X.cnt⟩⟩ (by simp)).facts.1, (Q.bx ⟨ub, lou, ⟨.slice ua un uc, .slice ud um ue, X.mon, X.cnt⟩⟩ (by simp)).facts.2.1⟩, (Q.mov _ _ rfl).facts⟩ (fun hS2 => ?_)
  clear hK K hS hb
  have hS := hS2
  clear hS2
  try simp only [List.setIfInBounds_toArray, List.set_cons_zero, List.set_cons_succ]
  clear hS
  refine listed_asK (l' := #[true, true, true, false, false, false, false, true, false, false]) (by kernel_rfl) ?_
  revert hob2
  revert hob
  revert hV
  revert Q
  revert gb
  revert V2
  clear V0
  exact ?rb27
  intro V0 ga gn gc gd gm ge log Q hV oZ hlog APg
  have hS : (fun W => (W.cell? ⟨ub, 0, none⟩ = some (.slice ua un uc) ∧ W.cell? ⟨ub, 1, none⟩ = some (.slice ud um ue)) ∧ (W.cell? ⟨w.heap.size + 1, 0, none⟩ = some (.int .i64 mf) ∧ W.cell? ⟨w.heap.size + 1, 1, none⟩ = some (.int .i64 mt) ∧ W.cell? ⟨w.heap.size + 1, 2, none⟩ = some (.int .i64 ms) ∧ W.cell? ⟨w.heap.size + 1, 3, none⟩ = some (.int .i64 mc))) V0 := ⟨⟨(Q.bx ⟨ub, lou, ⟨.slice ua un uc, .slice ud um ue, X.mon, X.cnt⟩⟩ (by simp)).facts.1, (Q.bx ⟨ub, lou, ⟨.slice ua un uc, .slice ud um ue, X.mon, X.cnt⟩⟩ (by simp)).facts.2.1⟩, (Q.mov _ _ rfl).facts⟩
  refine wpAnyH_ready (rs := [7]) (by kernel_rfl) (by simp) ?_
  refine AllReadyH.cons rfl (fun K hK => ?_) AllReadyH.nil
  refine step_bank rfl 9 rfl (by go_simp; (try rfl)) ?_
  have bb := below1 V0 (.cells #[.slice none 0 0, .slice none 0 0] 28)
  have hob : Hid ((∀ i ∈ ([⟨ub, lou, ⟨.slice ua un uc, .slice ud um ue, X.mon, X.cnt⟩⟩, ⟨zb, loz, ⟨.slice za zn zc, .slice zd zm ze, RS, RL⟩⟩] : List BI), i.b ≠ V0.heap.size) ∧ (∀ X', some X = some X' → w.heap.size ≠ V0.heap.size) ∧ (∀ t m, some (26, (⟨mf, mt, ms, mc⟩ : Mov)) = some (t, m) → w.heap.size + 1 ≠ V0.heap.size)) := Q.new.2
  have hob2 : w.heap.size ≤ V0.heap.size := by omega
  replace oZ := oZ.below bb
  replace Q := Q.new.1
  replace hV := Nat.le_trans hV bb.size
  clear bb
  refine hK.out _ _ ⟨⟨(Q.bx ⟨ub, lou, ⟨.slice ua un uc, .slice ud um ue, X.mon, X.cnt⟩⟩ (by simp)).facts.1, (Q.bx ⟨ub, lou, ⟨.slice ua un uc, .slice ud um ue, X.mon, X.cnt⟩⟩ (by simp)).facts.2.1⟩, (Q.mov _ _ rfl).facts⟩ (fun hS2 => ?_)
  clear hK K hS
  try simp only [Act.put, List.setIfInBounds_toArray, List.set_cons_zero, List.set_cons_succ]
  revert hS2
  revert hob2
  revert hob
  revert oZ
  revert hV
  revert Q
  generalize V0.alloc (.cells #[.slice none 0 0, .slice none 0 0] 28) = V2
  generalize V0.heap.size = gb
  intro Q hV oZ hob hob2 hS2
  have hS := hS2
  clear hS2
  clear hS
  refine listed_asK (l' := #[true, true, true, true, true, true, true, true, false, false]) (by kernel_rfl) ?_
  revert hob2
  revert hob
  revert APg
  revert hlog
  revert oZ
  revert hV
  revert Q
  revert gb
  revert log
  revert ge
  revert gm
  revert gd
  revert gc
  revert gn
  revert ga
  revert V2
  clear V0
  refine ?rb237
  rotate_left 1
  intro V0 gb Q hV hob hob2
  have hS : (fun W => (W.cell? ⟨ub, 0, none⟩ = some (.slice ua un uc) ∧ W.cell? ⟨ub, 1, none⟩ = some (.slice ud um ue)) ∧ (W.cell? ⟨w.heap.size + 1, 0, none⟩ = some (.int .i64 mf) ∧ W.cell? ⟨w.heap.size + 1, 1, none⟩ = some (.int .i64 mt) ∧ W.cell? ⟨w.heap.size + 1, 2, none⟩ = some (.int .i64 ms) ∧ W.cell? ⟨w.heap.size + 1, 3, none⟩ = some (.int .i64 mc))) V0 := ⟨⟨(Q.bx ⟨ub, lou, ⟨.slice ua un uc, .slice ud um ue, X.mon, X.cnt⟩⟩ (by simp)).facts.1, (Q.bx ⟨ub, lou, ⟨.slice ua un uc, .slice ud um ue, X.mon, X.cnt⟩⟩ (by simp)).facts.2.1⟩, (Q.mov _ _ rfl).facts⟩
  refine wpAnyH_ready (rs := [3]) (by kernel_rfl) (by simp) ?_
  refine AllReadyH.cons rfl (fun K hK => ?_) AllReadyH.nil
  go_simp
  refine (HIM.out _ _ lou _ (Q.ow ⟨ub, lou, ⟨.slice ua un uc, .slice ud um ue, X.mon, X.cnt⟩⟩ (by simp))).mono ?_
  intro e V2 h2
  obtain ⟨ga, gn, gc, gd, gm, ge, rfl, oZ, hb⟩ := h2.open
  clear h2
  have APg : Hid (∀ i ∈ ([⟨ub, lou, ⟨.slice ua un uc, .slice ud um ue, X.mon, X.cnt⟩⟩, ⟨zb, loz, ⟨.slice za zn zc, .slice zd zm ze, RS, RL⟩⟩] : List BI), ∀ k ∈ bkB i.Y, k ∉ bkB ⟨.slice ga gn gc, .slice gd gm ge, RS, RL⟩) := fun i hi k hk e => by have h3 := ((Q.ow i (List.mem_cons_of_mem _ hi)).bound hk).2; have h4 := (oZ.bound e).1; omega
  have hlog : w.heap.size + 2 ≤ V0.heap.size := hV
  generalize V0.heap.size = log at oZ hlog
  replace Q := Q.on hb
  replace hV := Nat.le_trans hV hb.size
  refine hK.out _ _ ⟨⟨(Q.bx ⟨ub, lou, ⟨.slice ua un uc, .slice ud um ue, X.mon, X.cnt⟩⟩ (by simp)).facts.1, (Q.bx ⟨ub, lou, ⟨.slice ua un uc, .slice ud um ue, X.mon, X.cnt⟩⟩ (by simp)).facts.2.1⟩, (Q.mov _ _ rfl).facts⟩ (fun hS2 => ?_)
  clear hK K hS hb
  have hS := hS2
  clear hS2
  try simp only [List.setIfInBounds_toArray, List.set_cons_zero, List.set_cons_succ]
  refine tkG 4 31 hS ?_
  try simp only [Act.put, List.setIfInBounds_toArray, List.set_cons_zero, List.set_cons_succ]
  refine tkG 5 36 hS ?_
  try simp only [Act.put, List.setIfInBounds_toArray, List.set_cons_zero, List.set_cons_succ]
  refine tkG 6 37 hS ?_
  try simp only [Act.put, List.setIfInBounds_toArray, List.set_cons_zero, List.set_cons_succ]
  clear hS
  refine listed_asK (l' := #[true, true, true, true, true, true, true, true, false, false]) (by kernel_rfl) ?_
  revert hob2
  revert hob
  revert APg
  revert hlog
  revert oZ
  revert hV
  revert Q
  revert gb
  revert log
  revert ge
  revert gm
  revert gd
  revert gc
  revert gn
  revert ga
  revert V2
  clear V0
  exact ?rb237
  intro V0 ga gn gc gd gm ge log gb Q hV oZ hlog APg hob hob2
  have hS : (fun W => (W.cell? ⟨ub, 0, none⟩ = some (.slice ua un uc) ∧ W.cell? ⟨ub, 1, none⟩ = some (.slice ud um ue)) ∧ (W.cell? ⟨w.heap.size + 1, 0, none⟩ = some (.int .i64 mf) ∧ W.cell? ⟨w.heap.size + 1, 1, none⟩ = some (.int .i64 mt) ∧ W.cell? ⟨w.heap.size + 1, 2, none⟩ = some (.int .i64 ms) ∧ W.cell? ⟨w.heap.size + 1, 3, none⟩ = some (.int .i64 mc))) V0 := ⟨⟨(Q.bx ⟨ub, lou, ⟨.slice ua un uc, .slice ud um ue, X.mon, X.cnt⟩⟩ (by simp)).facts.1, (Q.bx ⟨ub, lou, ⟨.slice ua un uc, .slice ud um ue, X.mon, X.cnt⟩⟩ (by simp)).facts.2.1⟩, (Q.mov _ _ rfl).facts⟩
  obtain ⟨g0, g1, g2, g3⟩ := (Q.bx ⟨gb, gb, ⟨.slice none 0 0, .slice none 0 0, [], []⟩⟩ (by simp)).facts
  simp only at g0 g1
  have Q2 := QB.fill (Y := ⟨.slice ga gn gc, .slice gd gm ge, RS, RL⟩) Q oZ hob.out hob2
  refine wpAnyH_ready (rs := [8]) (by kernel_rfl) (by simp) ?_
  refine AllReadyH.cons rfl (fun K hK => ?_) AllReadyH.nil
  go_simp
  refine hK.out _ _ ⟨⟨(Q2.bx ⟨ub, lou, ⟨.slice ua un uc, .slice ud um ue, X.mon, X.cnt⟩⟩ (by simp)).facts.1, (Q2.bx ⟨ub, lou, ⟨.slice ua un uc, .slice ud um ue, X.mon, X.cnt⟩⟩ (by simp)).facts.2.1⟩, (Q2.mov _ _ rfl).facts⟩ (fun hS2 => ?_)
  clear hK K hS
  have hS := hS2
  clear hS2 g0 g1 g2 g3 Q oZ
  have Q := Q2
  clear Q2
  refine tkG 9 10 hS ?_
  try simp only [Act.put, List.setIfInBounds_toArray, List.set_cons_zero, List.set_cons_succ]
  refine wpAnyH_done (by kernel_rfl) ?_ _
  refine NoPanic.normal ?_
  clear hS
  replace hV : w.heap.size + 2 ≤ ((V0.setCell ⟨gb, 0, none⟩ (.slice ga gn gc)).setCell ⟨gb, 1, none⟩ (.slice gd gm ge)).heap.size := by simpa using hV
  generalize ((V0.setCell ⟨gb, 0, none⟩ (.slice ga gn gc)).setCell ⟨gb, 1, none⟩ (.slice gd gm ge)) = Vg at Q hV ⊢
  obtain ⟨mm, hmm⟩ : ∃ mm, mm = 1 + cntBk ⟨.slice ga gn gc, .slice gd gm ge, RS, RL⟩ := ⟨_, rfl⟩
  have hm0 : ¬ ((mm : Int) < 0) := by omega
  have hm1 : ((mm : Int) != (mm : Int)) = false := by simp
  have HMG : Hid (∀ W lo, OwnBk W lo ⟨.slice ga gn gc, .slice gd gm ge, RS, RL⟩ → Calls Try.prog 11 #[.agg #[.slice ga gn gc, .slice gd gm ge], .int .i64 1] W fun e w' => e = .returned (.int .i64 (mm : Int)) ∧ OwnBk w' lo (mkBk 1 ⟨.slice ga gn gc, .slice gd gm ge, RS, RL⟩) ∧ Touch (bkB ⟨.slice ga gn gc, .slice gd gm ge, RS, RL⟩) W w') := fun W lo ho => by
    have := markBank_any ⟨.slice ga gn gc, .slice gd gm ge, RS, RL⟩ lo 1 W ho NLG.out
    unfold MarkBk at this
    rw [← hmm] at this
    exact this
  have HHG : Hid (∀ W, RdBk W (mkBk 1 ⟨.slice ga gn gc, .slice gd gm ge, RS, RL⟩) → Calls Try.prog 12 #[.agg #[.slice ga gn gc, .slice gd gm ge], .int .i64 1] W fun e w' => e = .returned (.int .i64 (mm : Int)) ∧ Below W.heap.size W w') := fun W h => by
    have := heldBank_any ⟨.slice ga gn gc, .slice gd gm ge, RS, RL⟩ 1 W h NLG.out
    rw [← hmm] at this
    exact this
  have HEQ : Hid (∀ W, RdBk W ⟨.slice ga gn gc, .slice gd gm ge, RS, RL⟩ → RdBk W ⟨.slice za zn zc, .slice zd zm ze, RS, RL⟩ → Calls Try.prog 10 #[.agg #[.slice ga gn gc, .slice gd gm ge], .agg #[.slice za zn zc, .slice zd zm ze]] W fun e w' => e = .returned (.bool true) ∧ Below W.heap.size W w') := fun W h1 h2 => eqBank_same ⟨.slice ga gn gc, .slice gd gm ge, RS, RL⟩ ⟨.slice za zn zc, .slice zd zm ze, RS, RL⟩ W h1 h2 rfl rfl
  clear hmm
  obtain ⟨p0, p1, -, -⟩ := (Q.bx ⟨gb, log, ⟨.slice ga gn gc, .slice gd gm ge, RS, RL⟩⟩ (by simp)).facts
  obtain ⟨q0, q1, -, -⟩ := (Q.bx ⟨zb, loz, ⟨.slice za zn zc, .slice zd zm ze, RS, RL⟩⟩ (by simp)).facts
  simp only at p0 p1 q0 q1
  go_wp2_with fail
  refine (HEQ.out _ (Q.ow ⟨gb, log, ⟨.slice ga gn gc, .slice gd gm ge, RS, RL⟩⟩ (by simp)).rd (Q.ow ⟨zb, loz, ⟨.slice za zn zc, .slice zd zm ze, RS, RL⟩⟩ (by simp)).rd).mono ?_
  rintro e w9 ⟨rfl, hb⟩
  replace Q := Q.on hb
  replace hV := Nat.le_trans hV hb.size
  clear p0 p1 q0 q1 hb
  -- THE ARGUMENT STAYS
  go_wp2_with fail
  refine wp_region_noPanic ?_
  refine wp_region_held_drew (S := fun W => (W.cell? ⟨ub, 0, none⟩ = some (.slice ua un uc) ∧ W.cell? ⟨ub, 1, none⟩ = some (.slice ud um ue)) ∧ (W.cell? ⟨w.heap.size, 0, none⟩ = some X.vm ∧ W.cell? ⟨w.heap.size, 1, none⟩ = some X.vc)) (by kernel_rfl) ⟨⟨(Q.bx ⟨ub, lou, ⟨.slice ua un uc, .slice ud um ue, X.mon, X.cnt⟩⟩ (by simp)).facts.1, (Q.bx ⟨ub, lou, ⟨.slice ua un uc, .slice ud um ue, X.mon, X.cnt⟩⟩ (by simp)).facts.2.1⟩, Q.arg X rfl⟩ (fun hS => ?_)
  replace Q := Q.on ((Below.refl _ _).drew)
  have hVd : w.heap.size + 2 ≤ w9.drew.heap.size := hV
  clear hV
  have hV := hVd
  clear hVd
  refine tkG 0 47 hS ?_
  try simp only [Act.put, List.setIfInBounds_toArray, List.set_cons_zero, List.set_cons_succ]
  refine tkG 1 48 hS ?_
  try simp only [Act.put, List.setIfInBounds_toArray, List.set_cons_zero, List.set_cons_succ]
  revert hS Q hV
  generalize w9.drew = V9
  intro hS Q hV
  refine wpAnyH_ready (rs := [2]) (by kernel_rfl) (by simp) ?_
  refine AllReadyH.cons rfl (fun K hK => ?_) AllReadyH.nil
  go_simp
  refine (HTO.out _ (hx.below Q.bel)).mono ?_
  intro e w10 h2
  obtain ⟨ka, kn, kc, kd, km, ke, rfl, oK, hb⟩ := h2.open
  replace Q := Q.on hb
  replace hV := Nat.le_trans hV hb.size
  clear h2 hb
  refine hK.out _ _ ⟨⟨(Q.bx ⟨ub, lou, ⟨.slice ua un uc, .slice ud um ue, X.mon, X.cnt⟩⟩ (by simp)).facts.1, (Q.bx ⟨ub, lou, ⟨.slice ua un uc, .slice ud um ue, X.mon, X.cnt⟩⟩ (by simp)).facts.2.1⟩, Q.arg X rfl⟩ (fun hS2 => ?_)
  clear hK K hS
  have hS := hS2
  clear hS2
  try simp only [Act.put, List.setIfInBounds_toArray, List.set_cons_zero, List.set_cons_succ]
  refine wpAnyH_ready (rs := [3]) (by kernel_rfl) (by simp) ?_
  refine AllReadyH.cons rfl (fun K hK => ?_) AllReadyH.nil
  go_simp
  refine (eqBank_same ⟨.slice ua un uc, .slice ud um ue, X.mon, X.cnt⟩ ⟨.slice ka kn kc, .slice kd km ke, X.mon, X.cnt⟩ _ (Q.ow ⟨ub, lou, ⟨.slice ua un uc, .slice ud um ue, X.mon, X.cnt⟩⟩ (by simp)).rd oK.rd rfl rfl).mono ?_
  rintro e w11 ⟨rfl, hb⟩
  replace Q := Q.on hb
  replace hV := Nat.le_trans hV hb.size
  clear hb oK
  refine hK.out _ _ ⟨⟨(Q.bx ⟨ub, lou, ⟨.slice ua un uc, .slice ud um ue, X.mon, X.cnt⟩⟩ (by simp)).facts.1, (Q.bx ⟨ub, lou, ⟨.slice ua un uc, .slice ud um ue, X.mon, X.cnt⟩⟩ (by simp)).facts.2.1⟩, Q.arg X rfl⟩ (fun hS2 => ?_)
  clear hK K hS
  have hS := hS2
  clear hS2
  try simp only [Act.put, List.setIfInBounds_toArray, List.set_cons_zero, List.set_cons_succ]
  refine tkG 4 51 hS ?_
  try simp only [Act.put, List.setIfInBounds_toArray, List.set_cons_zero, List.set_cons_succ]
  refine wpAnyH_done (by kernel_rfl) ?_ _
  refine NoPanic.normal ?_
  clear hS
  -- THE MARKS OF THE ARGUMENT
  obtain ⟨p0, p1, -, -⟩ := (Q.bx ⟨ub, lou, ⟨.slice ua un uc, .slice ud um ue, X.mon, X.cnt⟩⟩ (by simp)).facts
  simp only at p0 p1
  go_wp2_with fail
  refine (markBank_any ⟨.slice ua un uc, .slice ud um ue, X.mon, X.cnt⟩ lou 1 _ (Q.ow ⟨ub, lou, ⟨.slice ua un uc, .slice ud um ue, X.mon, X.cnt⟩⟩ (by simp)) NLY.out).mono ?_
  rintro e w12 ⟨rfl, -, hto⟩
  have owU := Q.ow ⟨ub, lou, ⟨.slice ua un uc, .slice ud um ue, X.mon, X.cnt⟩⟩ (by simp)
  have QS : QB w w11 (some X) (some (26, ⟨mf, mt, ms, mc⟩)) [⟨gb, log, ⟨.slice ga gn gc, .slice gd gm ge, RS, RL⟩⟩, ⟨zb, loz, ⟨.slice za zn zc, .slice zd zm ze, RS, RL⟩⟩] := Q.sub (by simp)
  have QM := QS.mark owU hlou hto (fun i hi k hk e => by
    rcases List.mem_cons.1 hi with rfl | hi
    · exact APg.out ⟨ub, lou, ⟨.slice ua un uc, .slice ud um ue, X.mon, X.cnt⟩⟩ (by simp) k e hk
    · exact APu.out i hi k e hk)
  replace hV := Nat.le_trans hV hto.size
  have hq3 : ¬ ((1 + cntBk ⟨.slice ua un uc, .slice ud um ue, X.mon, X.cnt⟩ : Nat) : Int) < 0 := by omega
  generalize (1 + cntBk ⟨.slice ua un uc, .slice ud um ue, X.mon, X.cnt⟩ : Nat) = ku at hq3 ⊢
  clear Q QS hto owU p0 p1
  have Q := QM
  clear QM
  obtain ⟨p0, p1, -, -⟩ := (Q.bx ⟨gb, log, ⟨.slice ga gn gc, .slice gd gm ge, RS, RL⟩⟩ (by simp)).facts
  obtain ⟨q0, q1, -, -⟩ := (Q.bx ⟨zb, loz, ⟨.slice za zn zc, .slice zd zm ze, RS, RL⟩⟩ (by simp)).facts
  simp only at p0 p1 q0 q1
  go_wp2_with fail
  refine (HEQ.out _ (Q.ow ⟨gb, log, ⟨.slice ga gn gc, .slice gd gm ge, RS, RL⟩⟩ (by simp)).rd (Q.ow ⟨zb, loz, ⟨.slice za zn zc, .slice zd zm ze, RS, RL⟩⟩ (by simp)).rd).mono ?_
  rintro e w13 ⟨rfl, hb⟩
  replace Q := Q.on hb
  replace hV := Nat.le_trans hV hb.size
  clear p0 p1 q0 q1 hb
  -- THE MARKS OF THE ANSWER
  obtain ⟨p0, p1, -, -⟩ := (Q.bx ⟨gb, log, ⟨.slice ga gn gc, .slice gd gm ge, RS, RL⟩⟩ (by simp)).facts
  simp only at p0 p1
  go_wp2_with fail
  have owG := Q.ow ⟨gb, log, ⟨.slice ga gn gc, .slice gd gm ge, RS, RL⟩⟩ (by simp)
  have bxG := Q.bx ⟨gb, log, ⟨.slice ga gn gc, .slice gd gm ge, RS, RL⟩⟩ (by simp)
  refine (HMG.out _ _ owG).mono ?_
  rintro e w14 ⟨rfl, om, hto⟩
  have bxG2 : BoxBk w14 gb (.slice ga gn gc) (.slice gd gm ge) := bxG.of_block (hto.block _ bxG.lt (bxG.out owG))
  have QM := (QB.drop Q).mark owG hlog hto (fun i hi k hk => by
    obtain rfl := List.mem_singleton.1 hi
    exact APg.out ⟨zb, loz, ⟨.slice za zn zc, .slice zd zm ze, RS, RL⟩⟩ (by simp) k hk)
  have Q2 := QB.put (Y := mkBk 1 ⟨.slice ga gn gc, .slice gd gm ge, RS, RL⟩) QM bxG2 om
  replace hV := Nat.le_trans hV hto.size
  clear Q QM owG bxG bxG2 om hto p0 p1 APg APu HEQ HMG
  have Q := Q2
  clear Q2
  obtain ⟨p0, p1, -, -⟩ := (Q.bx ⟨gb, log, mkBk 1 ⟨.slice ga gn gc, .slice gd gm ge, RS, RL⟩⟩ (by simp)).facts
  simp only [mkBk] at p0 p1
  go_wp2_with fail
  refine (HHG.out _ (Q.ow ⟨gb, log, mkBk 1 ⟨.slice ga gn gc, .slice gd gm ge, RS, RL⟩⟩ (by simp)).rd).mono ?_
  rintro e w15 ⟨rfl, hb⟩
  replace Q := Q.on hb
  replace hV := Nat.le_trans hV hb.size
  clear p0 p1 hb
  -- ANOTHER CALL
  go_wp2_with fail
  refine wp_region_noPanic ?_
  refine wp_region_held_drew (S := fun W => (W.cell? ⟨w.heap.size, 0, none⟩ = some X.vm ∧ W.cell? ⟨w.heap.size, 1, none⟩ = some X.vc) ∧ (W.cell? ⟨w.heap.size + 1, 0, none⟩ = some (.int .i64 mf) ∧ W.cell? ⟨w.heap.size + 1, 1, none⟩ = some (.int .i64 mt) ∧ W.cell? ⟨w.heap.size + 1, 2, none⟩ = some (.int .i64 ms) ∧ W.cell? ⟨w.heap.size + 1, 3, none⟩ = some (.int .i64 mc))) (by kernel_rfl) ⟨Q.arg X rfl, (Q.mov _ _ rfl).facts⟩ (fun hS => ?_)
  replace Q := Q.on ((Below.refl _ _).drew)
  have hVd : w.heap.size + 2 ≤ w15.drew.heap.size := hV
  clear hV
  have hV := hVd
  clear hVd
  refine tkG 0 80 hS ?_
  try simp only [Act.put, List.setIfInBounds_toArray, List.set_cons_zero, List.set_cons_succ]
  refine tkG 2 82 hS ?_
  try simp only [Act.put, List.setIfInBounds_toArray, List.set_cons_zero, List.set_cons_succ]
  revert hS Q hV
  generalize w15.drew = V0
  intro hS Q hV
  refine wpAnyH_ready (rs := [1, 8]) (by kernel_rfl) (by simp) ?_
  refine AllReadyH.cons rfl (fun K hK => ?_) ?_
  go_simp
  refine (HTO.out _ (hx.below Q.bel)).mono ?_
  intro e V2 h2
  obtain ⟨ja, jn, jc, jd, jm, je, rfl, oY, hb⟩ := h2.open
  clear h2
  replace oY := oY.mono (Nat.zero_le _)
  replace Q := Q.on hb
  replace hV := Nat.le_trans hV hb.size
  refine hK.out _ _ ⟨Q.arg X rfl, (Q.mov _ _ rfl).facts⟩ (fun hS2 => ?_)
  clear hK K hS hb
  have hS := hS2
  clear hS2
  try simp only [List.setIfInBounds_toArray, List.set_cons_zero, List.set_cons_succ]
  clear hS
  refine listed_asK (l' := #[true, true, true, false, false, false, false, false, false, false, false]) (by kernel_rfl) ?_
  revert oY
  revert hV
  revert Q
  revert je
  revert jm
  revert jd
  revert jc
  revert jn
  revert ja
  revert V2
  clear V0
  refine ?rc1
  rotate_left 1
  refine AllReadyH.cons rfl (fun K hK => ?_) AllReadyH.nil
  refine step_bank rfl 14 rfl (by go_simp; (try rfl)) ?_
  have bb := below1 V0 (.cells #[.slice none 0 0, .slice none 0 0] 28)
  have hob : Hid ((∀ i ∈ ([⟨gb, log, mkBk 1 ⟨.slice ga gn gc, .slice gd gm ge, RS, RL⟩⟩, ⟨zb, loz, ⟨.slice za zn zc, .slice zd zm ze, RS, RL⟩⟩] : List BI), i.b ≠ V0.heap.size) ∧ (∀ X', some X = some X' → w.heap.size ≠ V0.heap.size) ∧ (∀ t m, some (26, (⟨mf, mt, ms, mc⟩ : Mov)) = some (t, m) → w.heap.size + 1 ≠ V0.heap.size)) := Q.new.2
  have hob2 : w.heap.size ≤ V0.heap.size := by omega
  replace Q := Q.new.1
  replace hV := Nat.le_trans hV bb.size
  clear bb
  refine hK.out _ _ ⟨Q.arg X rfl, (Q.mov _ _ rfl).facts⟩ (fun hS2 => ?_)
  clear hK K hS
  try simp only [Act.put, List.setIfInBounds_toArray, List.set_cons_zero, List.set_cons_succ]
  revert hS2
  revert hob2
  revert hob
  revert hV
  revert Q
  generalize V0.alloc (.cells #[.slice none 0 0, .slice none 0 0] 28) = V2
  generalize V0.heap.size = hbx
  intro Q hV hob hob2 hS2
  have hS := hS2
  clear hS2
  clear hS
  refine listed_asK (l' := #[true, false, true, false, false, false, false, false, true, false, false]) (by kernel_rfl) ?_
  revert hob2
  revert hob
  revert hV
  revert Q
  revert hbx
  revert V2
  clear V0
  refine ?rc8
  rotate_left 1
  intro V0 ja jn jc jd jm je Q hV oY
  have hS : (fun W => (W.cell? ⟨w.heap.size, 0, none⟩ = some X.vm ∧ W.cell? ⟨w.heap.size, 1, none⟩ = some X.vc) ∧ (W.cell? ⟨w.heap.size + 1, 0, none⟩ = some (.int .i64 mf) ∧ W.cell? ⟨w.heap.size + 1, 1, none⟩ = some (.int .i64 mt) ∧ W.cell? ⟨w.heap.size + 1, 2, none⟩ = some (.int .i64 ms) ∧ W.cell? ⟨w.heap.size + 1, 3, none⟩ = some (.int .i64 mc))) V0 := ⟨Q.arg X rfl, (Q.mov _ _ rfl).facts⟩
  refine wpAnyH_ready (rs := [3, 8]) (by kernel_rfl) (by simp) ?_
  refine AllReadyH.cons rfl (fun K hK => ?_) ?_
  go_simp
  refine (HTM.out _).mono ?_
  rintro e V2 ⟨rfl, hb⟩
  replace oY := oY.below hb
  replace Q := Q.on hb
  replace hV := Nat.le_trans hV hb.size
  refine hK.out _ _ ⟨Q.arg X rfl, (Q.mov _ _ rfl).facts⟩ (fun hS2 => ?_)
  clear hK K hS hb
  have hS := hS2
  clear hS2
  try simp only [List.setIfInBounds_toArray, List.set_cons_zero, List.set_cons_succ]
  clear hS
  refine listed_asK (l' := #[true, true, true, true, false, false, false, false, false, false, false]) (by kernel_rfl) ?_
  revert oY
  revert hV
  revert Q
  revert je
  revert jm
  revert jd
  revert jc
  revert jn
  revert ja
  revert V2
  clear V0
  refine ?rc13
  rotate_left 1
  refine AllReadyH.cons rfl (fun K hK => ?_) AllReadyH.nil
  refine step_bank rfl 14 rfl (by go_simp; (try rfl)) ?_
  have bb := below1 V0 (.cells #[.slice none 0 0, .slice none 0 0] 28)
  have hob : Hid ((∀ i ∈ ([⟨gb, log, mkBk 1 ⟨.slice ga gn gc, .slice gd gm ge, RS, RL⟩⟩, ⟨zb, loz, ⟨.slice za zn zc, .slice zd zm ze, RS, RL⟩⟩] : List BI), i.b ≠ V0.heap.size) ∧ (∀ X', some X = some X' → w.heap.size ≠ V0.heap.size) ∧ (∀ t m, some (26, (⟨mf, mt, ms, mc⟩ : Mov)) = some (t, m) → w.heap.size + 1 ≠ V0.heap.size)) := Q.new.2
  have hob2 : w.heap.size ≤ V0.heap.size := by omega
  replace oY := oY.below bb
  replace Q := Q.new.1
  replace hV := Nat.le_trans hV bb.size
  clear bb
  refine hK.out _ _ ⟨Q.arg X rfl, (Q.mov _ _ rfl).facts⟩ (fun hS2 => ?_)
  clear hK K hS
  try simp only [Act.put, List.setIfInBounds_toArray, List.set_cons_zero, List.set_cons_succ]
  revert hS2
  revert hob2
  revert hob
  revert oY
  revert hV
  revert Q
  generalize V0.alloc (.cells #[.slice none 0 0, .slice none 0 0] 28) = V2
  generalize V0.heap.size = hbx
  intro Q hV oY hob hob2 hS2
  have hS := hS2
  clear hS2
  clear hS
  refine listed_asK (l' := #[true, true, true, false, false, false, false, false, true, false, false]) (by kernel_rfl) ?_
  revert hob2
  revert hob
  revert oY
  revert hV
  revert Q
  revert hbx
  revert je
  revert jm
  revert jd
  revert jc
  revert jn
  revert ja
  revert V2
  clear V0
  refine ?rc18
  rotate_left 1
  intro V0 hbx Q hV hob hob2
  have hS : (fun W => (W.cell? ⟨w.heap.size, 0, none⟩ = some X.vm ∧ W.cell? ⟨w.heap.size, 1, none⟩ = some X.vc) ∧ (W.cell? ⟨w.heap.size + 1, 0, none⟩ = some (.int .i64 mf) ∧ W.cell? ⟨w.heap.size + 1, 1, none⟩ = some (.int .i64 mt) ∧ W.cell? ⟨w.heap.size + 1, 2, none⟩ = some (.int .i64 ms) ∧ W.cell? ⟨w.heap.size + 1, 3, none⟩ = some (.int .i64 mc))) V0 := ⟨Q.arg X rfl, (Q.mov _ _ rfl).facts⟩
  refine wpAnyH_ready (rs := [1]) (by kernel_rfl) (by simp) ?_
  refine AllReadyH.cons rfl (fun K hK => ?_) AllReadyH.nil
  go_simp
  refine (HTO.out _ (hx.below Q.bel)).mono ?_
  intro e V2 h2
  obtain ⟨ja, jn, jc, jd, jm, je, rfl, oY, hb⟩ := h2.open
  clear h2
  replace oY := oY.mono (Nat.zero_le _)
  replace Q := Q.on hb
  replace hV := Nat.le_trans hV hb.size
  refine hK.out _ _ ⟨Q.arg X rfl, (Q.mov _ _ rfl).facts⟩ (fun hS2 => ?_)
  clear hK K hS hb
  have hS := hS2
  clear hS2
  try simp only [List.setIfInBounds_toArray, List.set_cons_zero, List.set_cons_succ]
  clear hS
  refine listed_asK (l' := #[true, true, true, false, false, false, false, false, true, false, false]) (by kernel_rfl) ?_
  revert hob2
  revert hob
  revert oY
  revert hV
  revert Q
  revert hbx
  revert je
  revert jm
  revert jd
  revert jc
  revert jn
  revert ja
  revert V2
  clear V0
  exact ?rc18
  intro V0 ja jn jc jd jm je Q hV oY
  have hS : (fun W => (W.cell? ⟨w.heap.size, 0, none⟩ = some X.vm ∧ W.cell? ⟨w.heap.size, 1, none⟩ = some X.vc) ∧ (W.cell? ⟨w.heap.size + 1, 0, none⟩ = some (.int .i64 mf) ∧ W.cell? ⟨w.heap.size + 1, 1, none⟩ = some (.int .i64 mt) ∧ W.cell? ⟨w.heap.size + 1, 2, none⟩ = some (.int .i64 ms) ∧ W.cell? ⟨w.heap.size + 1, 3, none⟩ = some (.int .i64 mc))) V0 := ⟨Q.arg X rfl, (Q.mov _ _ rfl).facts⟩
  refine wpAnyH_ready (rs := [4, 8]) (by kernel_rfl) (by simp) ?_
  refine AllReadyH.cons rfl (fun K hK => ?_) ?_
  go_simp
  refine (HIM.out _ _ _ _ oY).mono ?_
  intro e V2 h2
  obtain ⟨ha, hn, hc, hd, hm, he, rfl, oZ, hb⟩ := h2.open
  clear h2
  have APh : Hid (∀ i ∈ ([⟨gb, log, mkBk 1 ⟨.slice ga gn gc, .slice gd gm ge, RS, RL⟩⟩, ⟨zb, loz, ⟨.slice za zn zc, .slice zd zm ze, RS, RL⟩⟩] : List BI), ∀ k ∈ bkB i.Y, k ∉ bkB ⟨.slice ha hn hc, .slice hd hm he, RS, RL⟩) := fun i hi k hk e => by have h3 := ((Q.ow i (hi)).bound hk).2; have h4 := (oZ.bound e).1; omega
  have hloh : w.heap.size + 2 ≤ V0.heap.size := hV
  generalize V0.heap.size = loh at oZ hloh
  clear oY
  replace Q := Q.on hb
  replace hV := Nat.le_trans hV hb.size
  refine hK.out _ _ ⟨Q.arg X rfl, (Q.mov _ _ rfl).facts⟩ (fun hS2 => ?_)
  clear hK K hS hb
  have hS := hS2
  clear hS2
  try simp only [List.setIfInBounds_toArray, List.set_cons_zero, List.set_cons_succ]
  refine tkG 5 79 hS ?_
  try simp only [Act.put, List.setIfInBounds_toArray, List.set_cons_zero, List.set_cons_succ]
  refine tkG 6 85 hS ?_
  try simp only [Act.put, List.setIfInBounds_toArray, List.set_cons_zero, List.set_cons_succ]
  refine tkG 7 86 hS ?_
  try simp only [Act.put, List.setIfInBounds_toArray, List.set_cons_zero, List.set_cons_succ]
  clear hS
  refine listed_asK (l' := #[true, true, true, true, true, true, true, true, false, false, false]) (by kernel_rfl) ?_
  revert APh
  revert hloh
  revert oZ
  revert hV
  revert Q
  revert loh
  revert he
  revert hm
  revert hd
  revert hc
  revert hn
  revert ha
  revert je
  revert jm
  revert jd
  revert jc
  revert jn
  revert ja
  revert V2
  clear V0
  refine ?rc134
  rotate_left 1
  refine AllReadyH.cons rfl (fun K hK => ?_) AllReadyH.nil
  refine step_bank rfl 14 rfl (by go_simp; (try rfl)) ?_
  have bb := below1 V0 (.cells #[.slice none 0 0, .slice none 0 0] 28)
  have hob : Hid ((∀ i ∈ ([⟨gb, log, mkBk 1 ⟨.slice ga gn gc, .slice gd gm ge, RS, RL⟩⟩, ⟨zb, loz, ⟨.slice za zn zc, .slice zd zm ze, RS, RL⟩⟩] : List BI), i.b ≠ V0.heap.size) ∧ (∀ X', some X = some X' → w.heap.size ≠ V0.heap.size) ∧ (∀ t m, some (26, (⟨mf, mt, ms, mc⟩ : Mov)) = some (t, m) → w.heap.size + 1 ≠ V0.heap.size)) := Q.new.2
  have hob2 : w.heap.size ≤ V0.heap.size := by omega
  replace oY := oY.below bb
  replace Q := Q.new.1
  replace hV := Nat.le_trans hV bb.size
  clear bb
  refine hK.out _ _ ⟨Q.arg X rfl, (Q.mov _ _ rfl).facts⟩ (fun hS2 => ?_)
  clear hK K hS
  try simp only [Act.put, List.setIfInBounds_toArray, List.set_cons_zero, List.set_cons_succ]
  revert hS2
  revert hob2
  revert hob
  revert oY
  revert hV
  revert Q
  generalize V0.alloc (.cells #[.slice none 0 0, .slice none 0 0] 28) = V2
  generalize V0.heap.size = hbx
  intro Q hV oY hob hob2 hS2
  have hS := hS2
  clear hS2
  clear hS
  refine listed_asK (l' := #[true, true, true, true, false, false, false, false, true, false, false]) (by kernel_rfl) ?_
  revert hob2
  revert hob
  revert oY
  revert hV
  revert Q
  revert hbx
  revert je
  revert jm
  revert jd
  revert jc
  revert jn
  revert ja
  revert V2
  clear V0
  refine ?rc138
  rotate_left 1
  intro V0 ja jn jc jd jm je hbx Q hV oY hob hob2
  have hS : (fun W => (W.cell? ⟨w.heap.size, 0, none⟩ = some X.vm ∧ W.cell? ⟨w.heap.size, 1, none⟩ = some X.vc) ∧ (W.cell? ⟨w.heap.size + 1, 0, none⟩ = some (.int .i64 mf) ∧ W.cell? ⟨w.heap.size + 1, 1, none⟩ = some (.int .i64 mt) ∧ W.cell? ⟨w.heap.size + 1, 2, none⟩ = some (.int .i64 ms) ∧ W.cell? ⟨w.heap.size + 1, 3, none⟩ = some (.int .i64 mc))) V0 := ⟨Q.arg X rfl, (Q.mov _ _ rfl).facts⟩
  refine wpAnyH_ready (rs := [3]) (by kernel_rfl) (by simp) ?_
  refine AllReadyH.cons rfl (fun K hK => ?_) AllReadyH.nil
  go_simp
  refine (HTM.out _).mono ?_
  rintro e V2 ⟨rfl, hb⟩
  replace oY := oY.below hb
  replace Q := Q.on hb
  replace hV := Nat.le_trans hV hb.size
  refine hK.out _ _ ⟨Q.arg X rfl, (Q.mov _ _ rfl).facts⟩ (fun hS2 => ?_)
  clear hK K hS hb
  have hS := hS2
  clear hS2
  try simp only [List.setIfInBounds_toArray, List.set_cons_zero, List.set_cons_succ]
  clear hS
  refine listed_asK (l' := #[true, true, true, true, false, false, false, false, true, false, false]) (by kernel_rfl) ?_
  revert hob2
  revert hob
  revert oY
  revert hV
  revert Q
  revert hbx
  revert je
  revert jm
  revert jd
  revert jc
  revert jn
  revert ja
  revert V2
  clear V0
  exact ?rc138
  intro V0 ja jn jc jd jm je ha hn hc hd hm he loh Q hV oZ hloh APh
  have hS : (fun W => (W.cell? ⟨w.heap.size, 0, none⟩ = some X.vm ∧ W.cell? ⟨w.heap.size, 1, none⟩ = some X.vc) ∧ (W.cell? ⟨w.heap.size + 1, 0, none⟩ = some (.int .i64 mf) ∧ W.cell? ⟨w.heap.size + 1, 1, none⟩ = some (.int .i64 mt) ∧ W.cell? ⟨w.heap.size + 1, 2, none⟩ = some (.int .i64 ms) ∧ W.cell? ⟨w.heap.size + 1, 3, none⟩ = some (.int .i64 mc))) V0 := ⟨Q.arg X rfl, (Q.mov _ _ rfl).facts⟩
  refine wpAnyH_ready (rs := [8]) (by kernel_rfl) (by simp) ?_
  refine AllReadyH.cons rfl (fun K hK => ?_) AllReadyH.nil
  refine step_bank rfl 14 rfl (by go_simp; (try rfl)) ?_
  have bb := below1 V0 (.cells #[.slice none 0 0, .slice none 0 0] 28)
  have hob : Hid ((∀ i ∈ ([⟨gb, log, mkBk 1 ⟨.slice ga gn gc, .slice gd gm ge, RS, RL⟩⟩, ⟨zb, loz, ⟨.slice za zn zc, .slice zd zm ze, RS, RL⟩⟩] : List BI), i.b ≠ V0.heap.size) ∧ (∀ X', some X = some X' → w.heap.size ≠ V0.heap.size) ∧ (∀ t m, some (26, (⟨mf, mt, ms, mc⟩ : Mov)) = some (t, m) → w.heap.size + 1 ≠ V0.heap.size)) := Q.new.2
  have hob2 : w.heap.size ≤ V0.heap.size := by omega
  replace oZ := oZ.below bb
  replace Q := Q.new.1
  replace hV := Nat.le_trans hV bb.size
  clear bb
  refine hK.out _ _ ⟨Q.arg X rfl, (Q.mov _ _ rfl).facts⟩ (fun hS2 => ?_)
  clear hK K hS
  try simp only [Act.put, List.setIfInBounds_toArray, List.set_cons_zero, List.set_cons_succ]
  revert hS2
  revert hob2
  revert hob
  revert oZ
  revert hV
  revert Q
  generalize V0.alloc (.cells #[.slice none 0 0, .slice none 0 0] 28) = V2
  generalize V0.heap.size = hbx
  intro Q hV oZ hob hob2 hS2
  have hS := hS2
  clear hS2
  clear hS
  refine listed_asK (l' := #[true, true, true, true, true, true, true, true, true, false, false]) (by kernel_rfl) ?_
  revert hob2
  revert hob
  revert APh
  revert hloh
  revert oZ
  revert hV
  revert Q
  revert hbx
  revert loh
  revert he
  revert hm
  revert hd
  revert hc
  revert hn
  revert ha
  revert je
  revert jm
  revert jd
  revert jc
  revert jn
  revert ja
  revert V2
  clear V0
  refine ?rc1348
  rotate_left 1
  intro V0 ja jn jc jd jm je hbx Q hV oY hob hob2
  have hS : (fun W => (W.cell? ⟨w.heap.size, 0, none⟩ = some X.vm ∧ W.cell? ⟨w.heap.size, 1, none⟩ = some X.vc) ∧ (W.cell? ⟨w.heap.size + 1, 0, none⟩ = some (.int .i64 mf) ∧ W.cell? ⟨w.heap.size + 1, 1, none⟩ = some (.int .i64 mt) ∧ W.cell? ⟨w.heap.size + 1, 2, none⟩ = some (.int .i64 ms) ∧ W.cell? ⟨w.heap.size + 1, 3, none⟩ = some (.int .i64 mc))) V0 := ⟨Q.arg X rfl, (Q.mov _ _ rfl).facts⟩
  refine wpAnyH_ready (rs := [4]) (by kernel_rfl) (by simp) ?_
  refine AllReadyH.cons rfl (fun K hK => ?_) AllReadyH.nil
  go_simp
  refine (HIM.out _ _ _ _ oY).mono ?_
  intro e V2 h2
  obtain ⟨ha, hn, hc, hd, hm, he, rfl, oZ, hb⟩ := h2.open
  clear h2
  have APh : Hid (∀ i ∈ ([⟨gb, log, mkBk 1 ⟨.slice ga gn gc, .slice gd gm ge, RS, RL⟩⟩, ⟨zb, loz, ⟨.slice za zn zc, .slice zd zm ze, RS, RL⟩⟩] : List BI), ∀ k ∈ bkB i.Y, k ∉ bkB ⟨.slice ha hn hc, .slice hd hm he, RS, RL⟩) := fun i hi k hk e => by have h3 := ((Q.ow i (List.mem_cons_of_mem _ hi)).bound hk).2; have h4 := (oZ.bound e).1; omega
  have hloh : w.heap.size + 2 ≤ V0.heap.size := hV
  generalize V0.heap.size = loh at oZ hloh
  clear oY
  replace Q := Q.on hb
  replace hV := Nat.le_trans hV hb.size
  refine hK.out _ _ ⟨Q.arg X rfl, (Q.mov _ _ rfl).facts⟩ (fun hS2 => ?_)
  clear hK K hS hb
  have hS := hS2
  clear hS2
  try simp only [List.setIfInBounds_toArray, List.set_cons_zero, List.set_cons_succ]
  refine tkG 5 79 hS ?_
  try simp only [Act.put, List.setIfInBounds_toArray, List.set_cons_zero, List.set_cons_succ]
  refine tkG 6 85 hS ?_
  try simp only [Act.put, List.setIfInBounds_toArray, List.set_cons_zero, List.set_cons_succ]
  refine tkG 7 86 hS ?_
  try simp only [Act.put, List.setIfInBounds_toArray, List.set_cons_zero, List.set_cons_succ]
  clear hS
  refine listed_asK (l' := #[true, true, true, true, true, true, true, true, true, false, false]) (by kernel_rfl) ?_
  revert hob2
  revert hob
  revert APh
  revert hloh
  revert oZ
  revert hV
  revert Q
  revert hbx
  revert loh
  revert he
  revert hm
  revert hd
  revert hc
  revert hn
  revert ha
  revert je
  revert jm
  revert jd
  revert jc
  revert jn
  revert ja
  revert V2
  clear V0
  exact ?rc1348
  intro V0 ja jn jc jd jm je ha hn hc hd hm he loh hbx Q hV oZ hloh APh hob hob2
  have hS : (fun W => (W.cell? ⟨w.heap.size, 0, none⟩ = some X.vm ∧ W.cell? ⟨w.heap.size, 1, none⟩ = some X.vc) ∧ (W.cell? ⟨w.heap.size + 1, 0, none⟩ = some (.int .i64 mf) ∧ W.cell? ⟨w.heap.size + 1, 1, none⟩ = some (.int .i64 mt) ∧ W.cell? ⟨w.heap.size + 1, 2, none⟩ = some (.int .i64 ms) ∧ W.cell? ⟨w.heap.size + 1, 3, none⟩ = some (.int .i64 mc))) V0 := ⟨Q.arg X rfl, (Q.mov _ _ rfl).facts⟩
  obtain ⟨g0, g1, g2, g3⟩ := (Q.bx ⟨hbx, hbx, ⟨.slice none 0 0, .slice none 0 0, [], []⟩⟩ (by simp)).facts
  simp only at g0 g1
  have Q2 := QB.fill (Y := ⟨.slice ha hn hc, .slice hd hm he, RS, RL⟩) Q oZ hob.out hob2
  refine wpAnyH_ready (rs := [9]) (by kernel_rfl) (by simp) ?_
  refine AllReadyH.cons rfl (fun K hK => ?_) AllReadyH.nil
  go_simp
  refine hK.out _ _ ⟨Q2.arg X rfl, (Q2.mov _ _ rfl).facts⟩ (fun hS2 => ?_)
  clear hK K hS
  have hS := hS2
  clear hS2 g0 g1 g2 g3 Q oZ
  have Q := Q2
  clear Q2
  refine tkG 10 15 hS ?_
  try simp only [Act.put, List.setIfInBounds_toArray, List.set_cons_zero, List.set_cons_succ]
  refine wpAnyH_done (by kernel_rfl) ?_ _
  refine NoPanic.normal ?_
  clear hS
  replace hV : w.heap.size + 2 ≤ ((V0.setCell ⟨hbx, 0, none⟩ (.slice ha hn hc)).setCell ⟨hbx, 1, none⟩ (.slice hd hm he)).heap.size := by simpa using hV
  generalize ((V0.setCell ⟨hbx, 0, none⟩ (.slice ha hn hc)).setCell ⟨hbx, 1, none⟩ (.slice hd hm he)) = Vh at Q hV ⊢
  obtain ⟨p0, p1, -, -⟩ := (Q.bx ⟨hbx, loh, ⟨.slice ha hn hc, .slice hd hm he, RS, RL⟩⟩ (by simp)).facts
  obtain ⟨q0, q1, -, -⟩ := (Q.bx ⟨zb, loz, ⟨.slice za zn zc, .slice zd zm ze, RS, RL⟩⟩ (by simp)).facts
  simp only at p0 p1 q0 q1
  go_wp2_with fail
  refine (eqBank_same ⟨.slice ha hn hc, .slice hd hm he, RS, RL⟩ ⟨.slice za zn zc, .slice zd zm ze, RS, RL⟩ _ (Q.ow ⟨hbx, loh, ⟨.slice ha hn hc, .slice hd hm he, RS, RL⟩⟩ (by simp)).rd (Q.ow ⟨zb, loz, ⟨.slice za zn zc, .slice zd zm ze, RS, RL⟩⟩ (by simp)).rd rfl rfl).mono ?_
  rintro e w17 ⟨rfl, hb⟩
  replace Q := Q.on hb
  clear p0 p1 q0 q1 hb
  obtain ⟨p0, p1, -, -⟩ := (Q.bx ⟨gb, log, mkBk 1 ⟨.slice ga gn gc, .slice gd gm ge, RS, RL⟩⟩ (by simp)).facts
  simp only [mkBk] at p0 p1
  go_wp2_with fail
  refine (HHG.out _ (Q.ow ⟨gb, log, mkBk 1 ⟨.slice ga gn gc, .slice gd gm ge, RS, RL⟩⟩ (by simp)).rd).mono ?_
  rintro e w18 ⟨rfl, hb⟩
  replace Q := Q.on hb
  clear p0 p1 hb
  go_wp2
  go_ret
  exact ⟨rfl, Q.bel⟩
theorem own_fnExactMoved : ownKnob Try.prog.godebug = none := by kernel_rfl
theorem laidOut_fnExactMoved : laidOutB Try.prog = true := by kernel_rfl
set_option maxRecDepth 100000 in
theorem lifted_fnExactMoved (os : Os) (started : os.Started) (H : Type) (enc : TypeId × Value → H) :
    ReturnsInHanded {} Try.checked os 3 .any (Rows.fnExactMovedSpec.pre6 enc Try.prog Try.f3 Rows.fnExactMovedRow.domain false) (Rows.fnExactMovedSpec.post enc Try.prog Try.f3 false true false false) := by
  refine returnsInHanded_of_change (C := Try.checked) own_fnExactMoved started (by kernel_rfl) Try.func3
    (ChangeSpec.witness6 (enc := enc) (C := Try.checked) false ⟨#[], #[.agg #[.slice none 0 0, .slice none 0 0], .agg #[.int .i64 0, .int .i64 0, .int .i64 0, .int .i64 0]], []⟩ 8 (by kernel_rfl) (by kernel_rfl) (by kernel_rfl) (by kernel_rfl)) ?_
  intro W base args ds gs before hval0 hW hcnd _
  have hval : ∀ (j : Nat) t v, Try.f3.params[j]? = some t → args[j]? = some v → Value.okWide Try.prog W .any base t v := hval0
  have hW' := hW
  obtain ⟨p, q, hA0, hV, rfl, hfz, hnd⟩ := hW
  have hA : DataW.TrodAll enc Try.prog W 0 (fun _ => true) true Try.f3.params.toList args.toList ds p := hA0
  rw [Try.params3] at hA hval
  obtain ⟨v0, vs0, d0, ds0, p0, q0, hargs, rfl, rfl, h0, r0⟩ := trodAll_cons hA
  obtain ⟨v1, vs1, d1, ds1, p1, q1, rfl, rfl, rfl, h1, r1⟩ := trodAll_cons r0
  obtain ⟨rfl, rfl, rfl⟩ := trodAll_nil r1
  obtain rfl : args = #[v0, v1] := by cases args; simp_all
  obtain ⟨rfl, rfl⟩ := trodVars_none hV
  obtain ⟨c0, rfl, _⟩ := okWide_struct Try.underlying24 (hval 0 24 v0 rfl rfl)
  have k0 := h0
  have lt0 : ∀ x ∈ p0, x.block < W.heap.size := by obtain ⟨m, hm⟩ := k0; exact DataW.trod_lt m _ _ _ hm
  obtain ⟨X0, hc0, hx0⟩ : ∃ X : BkX, (Value.agg c0).cells.toList = [X.vm, X.vc] ∧ RdBk W X := by obtain ⟨m, hm⟩ := h0; exact open_bank hm
  obtain rfl : c0 = #[X0.vm, X0.vc] := by have h := congrArg List.toArray hc0; simp only [Value.cells, Array.toArray_toList] at h; exact h
  obtain ⟨c1, rfl, _⟩ := okWide_struct Try.underlying26 (hval 1 26 v1 rfl rfl)
  have k1 := h1
  have lt1 : ∀ x ∈ p1, x.block < W.heap.size := by obtain ⟨m, hm⟩ := k1; exact DataW.trod_lt m _ _ _ hm
  obtain ⟨m1, hc1⟩ : ∃ m : Mov, (Value.agg c1).cells.toList = [.int .i64 m.fr, .int .i64 m.to', .int .i64 m.sum, .int .i64 m.cou] := by obtain ⟨m, hm⟩ := h1; exact open_move hm
  obtain rfl : c1 = #[.int .i64 m1.fr, .int .i64 m1.to', .int .i64 m1.sum, .int .i64 m1.cou] := by have h := congrArg List.toArray hc1; simp only [Value.cells, Array.toArray_toList] at h; exact h
  clear hA0 hval0
  refine (lawMoved X0 m1 W hx0).mono fun e W' ⟨he, bel⟩ => ?_
  subst he
  exact ⟨_, rfl, _, _, _, [], _, [], hW', trodAll_mk1 (shut_bool Try.underlying4 _), (trodAll_cons_mk (Below.trod laidOut_fnExactMoved (by kernel_rfl) (of_decide_eq_true (by kernel_rfl)) k0 bel lt0) (trodAll_cons_mk (Below.trod laidOut_fnExactMoved (by kernel_rfl) (of_decide_eq_true (by kernel_rfl)) k1 bel lt1) trodAll_mk0)), rfl, bel.frame _, fun h => by cases h⟩
theorem over_fnExactMoved : Rows.fnExactMovedRow.holds Try.pinned (OpenSpec.ofChange Rows.fnExactMovedSpec) :=
  OpenClaim.holds_of_wide 3 Try.f3 rfl rfl rfl rfl rfl rfl rfl ⟨rfl, rfl, rfl, rfl, rfl⟩ rfl rfl rfl rfl rfl (by kernel_rfl) Try.func3 (by kernel_rfl)
    (of_decide_eq_true (by kernel_rfl)) (by unfold Func.isWrapper; first | (rw [if_pos (by decide +kernel)]; kernel_rfl) | (rw [if_neg (by decide +kernel)]; exact ⟨rfl, rfl⟩))
    (fun os started H enc _ => lifted_fnExactMoved os started H enc)
theorem fnExactMoved_holds : Rows.FnExactMovedSaid := over_fnExactMoved
#print axioms fnExactMoved_holds

end Go.Proofs.Ytmgapmhjkamigab
