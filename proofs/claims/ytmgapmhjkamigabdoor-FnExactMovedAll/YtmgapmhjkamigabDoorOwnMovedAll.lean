/- Whatever bank and texts it is called with, laws.FnExactMovedAll returns true and its arguments read as before: both MovedAll tell the same, in memory of their own, and what they are handed stays. Condition: the listed tables and errors of the Go library hold what its text lays there (tied by the card). -/
-- UNF Gen
import Derived.Test.YtmgapmhjkamigabDoorRows
import Derived.Test.YtmgapmhjkamigabDoorCards
import Derived.Test.YtmgapmhjkamigabDoorTie
import Derived.Test.YtmgapmhjkamigabDoorBnkOpen
import Derived.Test.YtmgapmhjkamigabDoorMovAll
import Derived.Test.YtmgapmhjkamigabDoorMovLaid
import Derived.Test.YtmgapmhjkamigabDoorStrMark
import Derived.Test.YtmgapmhjkamigabDoorStrCp
import Derived.ProofKit
import Derived.OpenShut
import Derived.ShutString
import Derived.ChangeOld
import Derived.LaidMore
import Derived.SevenTiedAt
import Derived.Stop.Joined
namespace Go.Proofs.YtmgapmhjkamigabDoor
open Go.ChangeShapes Go.WideShapes Go.ChangeAt Go.RowKit
theorem allR_len (ms cs : List Int) (rs : List (Mov × Bool)) : (allR ms cs rs).mon.length ≤ ms.length ∧ (allR ms cs rs).cnt.length ≤ cs.length ∧ (allR ms cs rs).cod.length ≤ rs.length := by
  unfold allR
  split
  · have h := nthA_len ⟨ms, cs, []⟩ rs rs.length (Nat.le_refl _)
    rw [nthA_all] at h
    simp only [List.length_nil, Nat.zero_add] at h
    exact ⟨h.1, h.2.1, by omega⟩
  · exact ⟨Nat.zero_le _, Nat.zero_le _, Nat.zero_le _⟩
/-- A row of numbers turns: banks in other rows stay. -/
theorem QB.turn {w V V' : World} {xa : Option BkX} {l : List BI} {lo : Nat} {v : Value} {t s n : Nat} {xs : List Value} (h : QB w V xa none l) (ho : V.ownsRow lo t s v n xs) (htp : t ≠ 34) (hlo : w.heap.size + 1 ≤ lo) (ht : V.grownBy V' v.ownBlock) (ha : ∀ i ∈ l, ∀ k ∈ bkB i.Y, v.ownBlock = some k → False) : QB w V' xa none l :=
  h.touch (Touch.of_grown (bs := oneB v) ht (fun _ hk => mem_oneB.2 hk)) (fun k hk => by have := (World.ownsRow.lt ho k (mem_oneB.1 hk)).1; omega) (fun _ _ e => by have := (World.ownsRow.lt ho _ (mem_oneB.1 e)).1; omega) (fun _ _ e => by cases e) (fun i hi e => boxBk_row (h.bx i hi) ho htp _ (mem_oneB.1 e) rfl) (fun i hi k hk e => ha i hi k hk (mem_oneB.1 e))
theorem rowTurn {V V' : World} {lo' t' s' n' : Nat} {v u : Value} {ys : List Value} (ho : V.ownsRow lo' t' s' u n' ys) (ht : V.grownBy V' v.ownBlock) (ha : ∀ k, u.ownBlock = some k → v.ownBlock = some k → False) : V'.ownsRow lo' t' s' u n' ys :=
  (Touch.of_grown (bs := oneB v) ht (fun _ hk => mem_oneB.2 hk)).row ho (fun k hk e => ha k hk (mem_oneB.1 e))
set_option maxHeartbeats 16000000 in
set_option maxRecDepth 100000 in
theorem lawMovedAll (X : BkX) (v : Value) (ss : List ByteArray) (w : World) (hx : RdBk w X) (hr : RdS w v ss) (hz : ∀ s ∈ ss, s.size ≤ maxLen) (he : MEnv w) :
    Calls Tryd.prog 4 #[.agg #[X.vm, X.vc], v] w fun e w' => e = .returned (.bool true) ∧ Below w.heap.size w w' := by
  have HE : Hid (MEnv w) := he
  have HZ : Hid (∀ s ∈ ss, s.size ≤ maxLen) := hz
  clear he hz
  obtain ⟨va, vc, rfl, hlc, hlm, hjunk⟩ := id hr
  clear hjunk hlc hlm
  have HRD : Hid (RdS w (.slice va ss.length vc) ss) := hr
  clear hr
  have Q : QB w (w.alloc (.cells #[X.vm, X.vc] 30)) (some X) none [] := ⟨below1 w _, (fun X' e => by cases e; exact bkAt_new w X _), (fun t m' e => by cases e), (fun i hi => by cases hi), (fun i hi => by cases hi)⟩
  have hV : w.heap.size + 1 ≤ (w.alloc (.cells #[X.vm, X.vc] 30)).heap.size := by simp
  obtain ⟨d0, d1⟩ := Q.arg X rfl
  have HSZ : Hid (Calls _ _ _ _ _) := szBank_any X _ (hx.below Q.bel)
  go_enter Tryd.func4, Tryd.ntmps4
  go_wp2_with fail
  refine HSZ.out.mono ?_
  rintro e w1 ⟨hb, z, rfl, hz⟩
  replace Q := Q.on hb
  replace hV := Nat.le_trans hV hb.size
  clear HSZ hb d0 d1
  rcases hz with hz | ⟨hz0, hsm⟩
  · subst hz
    go_wp2
    go_ret
    exact ⟨rfl, Q.bel⟩
  have hsm2 : X.mon.length + X.cnt.length ≤ 1048576 := by unfold SmallBk at hsm; omega
  have hz1 : z ≤ 1048576 := by unfold SmallBk at hsm; omega
  clear hsm
  go_wp2_with fail
  refine (szTexts_at _ ss z _ (HRD.out.below Q.bel) HZ.out hz0 hz1).mono ?_
  rintro e w2 ⟨hw2, x, rfl, hx2⟩
  obtain rfl := hw2.symm
  rcases hx2 with hx2 | ⟨hx0, hxl, hsz⟩
  · subst hx2
    go_wp2
    go_ret
    exact ⟨rfl, Q.bel⟩
  have hsl : ss.length ≤ 1048576 := by omega
  clear hxl hz1 HZ
  obtain ⟨rs, hR⟩ := rmAll_ex ss
  have HTO : Hid (∀ W, RdBk W X → Calls Tryd.prog 11 #[.agg #[X.vm, X.vc]] W fun e w' => ToBk W X.mon X.cnt e w') := fun W h => toBank_any X W h hsm2
  have HTT : Hid (∀ W, RdS W (.slice va ss.length vc) ss → Calls Tryd.prog 12 #[(.slice va ss.length vc)] W fun e w' => ∃ u, e = .returned u ∧ OwnS w' W.heap.size u ss ∧ Below W.heap.size W w') := fun W h => toTexts_any _ ss W h (by omega)
  have HSP : Hid (∀ (u v t : Value) W, RdBk W ⟨u, v, X.mon, X.cnt⟩ → RdS W t ss → Calls Tryd.prog 10 #[.agg #[u, v], t] W fun e w' => AllRes W (allR X.mon X.cnt rs) e w') := fun u v t W h1 h2 => specMovedAll_any ⟨u, v, X.mon, X.cnt⟩ t ss rs W h1 h2 (fun k h => hsz _ (List.getElem_mem h)) hsl hR hsm2
  have HIM : Hid (∀ (u v t : Value) W, RdBk W ⟨u, v, X.mon, X.cnt⟩ → RdS W t ss → MEnv W → Calls Tryd.prog 13 #[.agg #[u, v], t] W fun e w' => AllRes W (allR X.mon X.cnt rs) e w') := fun u v t W h1 h2 h3 => implMovedAll_any ⟨u, v, X.mon, X.cnt⟩ t ss rs W h1 h2 (fun k h => hsz _ (List.getElem_mem h)) hsl hR hsm2 h3
  have nl := allR_len X.mon X.cnt rs
  rw [hR.1] at nl
  generalize allR X.mon X.cnt rs = R at HSP HIM nl
  obtain ⟨rm, rc, rk⟩ := R
  simp only at nl
  have NLG : Hid (1 + (rm.length + rc.length) ≤ 4194304) := by unfold Hid; omega
  have NLK : Hid (rk.length ≤ 1048576) := by unfold Hid; omega
  have NLY : Hid (1 + (X.mon.length + X.cnt.length) ≤ 2097152) := by unfold Hid; omega
  clear hsm2 nl hR hsz
  -- THE MODEL
  obtain ⟨d0, d1⟩ := Q.arg X rfl
  go_wp2_with fail
  refine (HTO.out _ (hx.below Q.bel)).mono ?_
  intro e uy h2
  obtain ⟨ya, yn, yc, yd, ym, ye, rfl, oy, hb⟩ := h2.open
  clear h2
  replace Q := Q.on hb
  replace hV := Nat.le_trans hV hb.size
  clear d0 d1 hb
  go_wp2_with fail
  refine (HTT.out _ (HRD.out.below Q.bel)).mono ?_
  rintro e tp ⟨tvp, rfl, sp, hb⟩
  obtain ⟨pa, pc, e3⟩ := ownSl sp
  subst e3
  replace Q := Q.on hb
  replace oy := oy.below hb
  replace hV := Nat.le_trans hV hb.size
  clear hb
  go_wp2_with fail
  refine (HSP.out _ _ _ _ oy.rd sp.rd).mono ?_
  intro e vz h2
  obtain ⟨za, zn, zc, zd, zm, ze, zf, zg, zh, rfl, oz, cz, apz, hb⟩ := h2.open
  simp only at oz cz apz
  clear h2
  generalize tp.heap.size = loz at oz cz
  replace Q := Q.on hb
  replace hV := Nat.le_trans hV hb.size
  have bB := below1 vz (.cells #[.slice za zn zc, .slice zd zm ze] 34)
  have QA := Q.on bB
  replace cz := cz.below bB
  have hV2 : w.heap.size + 2 ≤ (vz.alloc (.cells #[.slice za zn zc, .slice zd zm ze] 34)).heap.size := by simp; omega
  clear hV
  have hV := hV2
  clear hV2
  replace Q := QB.put (Y := ⟨.slice za zn zc, .slice zd zm ze, rm, rc⟩) QA (boxBk_new _ _ _) (oz.below bB)
  clear QA bB hb oz
  generalize hbq : vz.heap.size = zb at Q
  have HWX : Hid (vz.heap.size = zb) := hbq
  clear hbq
  clear sp oy apz
  obtain ⟨d0, d1⟩ := Q.arg X rfl
  go_wp2_with fail
  rw [HWX.out]
  clear HWX
  generalize vz.alloc (.cells #[.slice za zn zc, .slice zd zm ze] 34) = W5 at Q hV cz d0 d1 ⊢
  -- THE ARGUMENTS
  refine (HTO.out _ (hx.below Q.bel)).mono ?_
  intro e uu h2
  obtain ⟨ua, un, uc, ud, um, ue, rfl, ou, hb⟩ := h2.open
  clear h2
  clear d0 d1
  have APuz : Hid (∀ k ∈ bkB ⟨.slice ua un uc, .slice ud um ue, X.mon, X.cnt⟩, k ∉ bkB ⟨.slice za zn zc, .slice zd zm ze, rm, rc⟩) := fun k hk e => by have h3 := ((Q.ow ⟨zb, loz, ⟨.slice za zn zc, .slice zd zm ze, rm, rc⟩⟩ (by simp)).bound e).2; have h4 := (ou.bound hk).1; omega
  have APuk : Hid (∀ k ∈ bkB ⟨.slice ua un uc, .slice ud um ue, X.mon, X.cnt⟩, (Value.slice zf zg zh).ownBlock = some k → False) := fun k hk e => by have h3 := (World.ownsRow.lt cz k e).2; have h4 := (ou.bound hk).1; omega
  have HLu : Hid (w.heap.size + 2 ≤ W5.heap.size) := hV
  generalize W5.heap.size = lou at ou HLu
  replace Q := Q.on hb
  replace cz := cz.below hb
  replace hV := Nat.le_trans hV hb.size
  have bB := below1 uu (.cells #[.slice ua un uc, .slice ud um ue] 34)
  have QA := Q.on bB
  replace cz := cz.below bB
  replace hV := Nat.le_trans hV bB.size
  replace Q := QB.put (Y := ⟨.slice ua un uc, .slice ud um ue, X.mon, X.cnt⟩) QA (boxBk_new _ _ _) (ou.below bB)
  clear QA bB hb ou
  generalize hbq : uu.heap.size = ub at Q
  have HWX : Hid (uu.heap.size = ub) := hbq
  clear hbq
  go_wp2_with fail
  rw [HWX.out]
  clear HWX
  generalize uu.alloc (.cells #[.slice ua un uc, .slice ud um ue] 34) = W6 at Q hV cz ⊢
  refine (HTT.out _ (HRD.out.below Q.bel)).mono ?_
  rintro e tx ⟨tvx, rfl, sx, hb⟩
  obtain ⟨xa, xc, e3⟩ := ownSl sx
  subst e3
  have HLx : Hid (w.heap.size + 1 ≤ W6.heap.size) := by unfold Hid; omega
  generalize W6.heap.size = lox at sx HLx
  replace Q := Q.on hb
  replace cz := cz.below hb
  replace hV := Nat.le_trans hV hb.size
  clear hb
  obtain ⟨p0, p1, -, -⟩ := (Q.bx ⟨ub, lou, ⟨.slice ua un uc, .slice ud um ue, X.mon, X.cnt⟩⟩ (by simp)).facts
  simp only at p0 p1
  -- THE PROGRAM
  go_wp2_with fail
  refine (HIM.out _ _ _ _ (Q.ow ⟨ub, lou, ⟨.slice ua un uc, .slice ud um ue, X.mon, X.cnt⟩⟩ (by simp)).rd sx.rd (HE.out.on Q.bel)).mono ?_
  intro e vg h2
  obtain ⟨ga, gn, gc, gd, gm, ge, gf, gg, gh, rfl, og, cg, apg, hb⟩ := h2.open
  simp only at og cg apg
  clear h2
  clear p0 p1
  have APgu : Hid (∀ k ∈ bkB ⟨.slice ga gn gc, .slice gd gm ge, rm, rc⟩, k ∉ bkB ⟨.slice ua un uc, .slice ud um ue, X.mon, X.cnt⟩) := fun k hk e => by have h3 := ((Q.ow ⟨ub, lou, ⟨.slice ua un uc, .slice ud um ue, X.mon, X.cnt⟩⟩ (by simp)).bound e).2; have h4 := (og.bound hk).1; omega
  have AKgu : Hid (∀ k ∈ bkB ⟨.slice ua un uc, .slice ud um ue, X.mon, X.cnt⟩, (Value.slice gf gg gh).ownBlock = some k → False) := fun k hk e => by have h3 := ((Q.ow ⟨ub, lou, ⟨.slice ua un uc, .slice ud um ue, X.mon, X.cnt⟩⟩ (by simp)).bound hk).2; have h4 := (World.ownsRow.lt cg k e).1; omega
  have APgz : Hid (∀ k ∈ bkB ⟨.slice ga gn gc, .slice gd gm ge, rm, rc⟩, k ∉ bkB ⟨.slice za zn zc, .slice zd zm ze, rm, rc⟩) := fun k hk e => by have h3 := ((Q.ow ⟨zb, loz, ⟨.slice za zn zc, .slice zd zm ze, rm, rc⟩⟩ (by simp)).bound e).2; have h4 := (og.bound hk).1; omega
  have AKgz : Hid (∀ k ∈ bkB ⟨.slice za zn zc, .slice zd zm ze, rm, rc⟩, (Value.slice gf gg gh).ownBlock = some k → False) := fun k hk e => by have h3 := ((Q.ow ⟨zb, loz, ⟨.slice za zn zc, .slice zd zm ze, rm, rc⟩⟩ (by simp)).bound hk).2; have h4 := (World.ownsRow.lt cg k e).1; omega
  have APgk : Hid (∀ k ∈ bkB ⟨.slice ga gn gc, .slice gd gm ge, rm, rc⟩, (Value.slice zf zg zh).ownBlock = some k → False) := fun k hk e => by have h3 := (World.ownsRow.lt cz k e).2; have h4 := (og.bound hk).1; omega
  have AKgk : Hid (∀ k, (Value.slice zf zg zh).ownBlock = some k → (Value.slice gf gg gh).ownBlock = some k → False) := fun k e1 e2 => by have h3 := (World.ownsRow.lt cz k e1).2; have h4 := (World.ownsRow.lt cg k e2).1; omega
  have AKgg : Hid (∀ k ∈ bkB ⟨.slice ga gn gc, .slice gd gm ge, rm, rc⟩, (Value.slice gf gg gh).ownBlock = some k → False) := fun k hk e => apg k (mem_oneB.2 e) hk
  clear apg
  have HLg : Hid (w.heap.size + 2 ≤ tx.heap.size) := hV
  generalize tx.heap.size = log at og cg HLg
  replace Q := Q.on hb
  replace cz := cz.below hb
  replace sx := sx.below hb
  replace hV := Nat.le_trans hV hb.size
  have bB := below1 vg (.cells #[.slice ga gn gc, .slice gd gm ge] 34)
  have QA := Q.on bB
  replace cz := cz.below bB
  replace sx := sx.below bB
  replace cg := cg.below bB
  replace hV := Nat.le_trans hV bB.size
  replace Q := QB.put (Y := ⟨.slice ga gn gc, .slice gd gm ge, rm, rc⟩) QA (boxBk_new _ _ _) (og.below bB)
  clear QA bB hb og
  generalize hbq : vg.heap.size = gb at Q
  have HWX : Hid (vg.heap.size = gb) := hbq
  clear hbq
  obtain ⟨mm, hmm⟩ : ∃ mm, mm = 1 + cntBk ⟨.slice ga gn gc, .slice gd gm ge, rm, rc⟩ := ⟨_, rfl⟩
  have hmc : mm ≤ 4194304 := by rw [hmm]; exact NLG.out
  have HMC : Hid (mm ≤ 4194304) := hmc
  have HMG : Hid (∀ W lo, OwnBk W lo ⟨.slice ga gn gc, .slice gd gm ge, rm, rc⟩ → Calls Tryd.prog 17 #[.agg #[.slice ga gn gc, .slice gd gm ge], .int .i64 1] W fun e w' => e = .returned (.int .i64 (mm : Int)) ∧ OwnBk w' lo (mkBk 1 ⟨.slice ga gn gc, .slice gd gm ge, rm, rc⟩) ∧ Touch (bkB ⟨.slice ga gn gc, .slice gd gm ge, rm, rc⟩) W w') := fun W lo ho => by
    have := markBank_any ⟨.slice ga gn gc, .slice gd gm ge, rm, rc⟩ lo 1 W ho NLG.out
    unfold MarkBk at this
    rw [← hmm] at this
    exact this
  have HHG : Hid (∀ W, RdBk W (mkBk 1 ⟨.slice ga gn gc, .slice gd gm ge, rm, rc⟩) → Calls Tryd.prog 20 #[.agg #[.slice ga gn gc, .slice gd gm ge], .int .i64 1] W fun e w' => e = .returned (.int .i64 (mm : Int)) ∧ Below W.heap.size W w') := fun W h => by
    have := heldBank_any ⟨.slice ga gn gc, .slice gd gm ge, rm, rc⟩ 1 W h NLG.out
    rw [← hmm] at this
    exact this
  have HEQ : Hid (∀ W, RdBk W ⟨.slice ga gn gc, .slice gd gm ge, rm, rc⟩ → RdBk W ⟨.slice za zn zc, .slice zd zm ze, rm, rc⟩ → Calls Tryd.prog 14 #[.agg #[.slice ga gn gc, .slice gd gm ge], .agg #[.slice za zn zc, .slice zd zm ze]] W fun e w' => e = .returned (.bool true) ∧ Below W.heap.size W w') := fun W h1 h2 => eqBank_same ⟨.slice ga gn gc, .slice gd gm ge, rm, rc⟩ ⟨.slice za zn zc, .slice zd zm ze, rm, rc⟩ W h1 h2 rfl rfl
  have HEK : Hid (∀ W, RdI W (.slice gf gg gh) rk → RdI W (.slice zf zg zh) rk → Calls Tryd.prog 15 #[.slice gf gg gh, .slice zf zg zh] W fun e w' => e = .returned (.bool true) ∧ Below W.heap.size W w') := fun W h1 h2 => eqIntsZ _ _ rk W h1 h2
  clear hmm hmc
  obtain ⟨p0, p1, -, -⟩ := (Q.bx ⟨gb, log, ⟨.slice ga gn gc, .slice gd gm ge, rm, rc⟩⟩ (by simp)).facts
  obtain ⟨q0, q1, -, -⟩ := (Q.bx ⟨zb, loz, ⟨.slice za zn zc, .slice zd zm ze, rm, rc⟩⟩ (by simp)).facts
  simp only at p0 p1 q0 q1
  go_wp2_with fail
  rw [HWX.out]
  clear HWX
  generalize vg.alloc (.cells #[.slice ga gn gc, .slice gd gm ge] 34) = W7 at Q hV cz sx cg p0 p1 q0 q1 ⊢
  refine (HEQ.out _ (Q.ow ⟨gb, log, ⟨.slice ga gn gc, .slice gd gm ge, rm, rc⟩⟩ (by simp)).rd (Q.ow ⟨zb, loz, ⟨.slice za zn zc, .slice zd zm ze, rm, rc⟩⟩ (by simp)).rd).mono ?_
  rintro e w9 ⟨rfl, hb⟩
  replace Q := Q.on hb
  replace cz := cz.below hb
  replace sx := sx.below hb
  replace cg := cg.below hb
  replace hV := Nat.le_trans hV hb.size
  clear hb p0 p1 q0 q1
  go_wp2_with fail
  refine (HEK.out _ cg.rd cz.rd).mono ?_
  rintro e w9 ⟨rfl, hb⟩
  replace Q := Q.on hb
  replace cz := cz.below hb
  replace sx := sx.below hb
  replace cg := cg.below hb
  replace hV := Nat.le_trans hV hb.size
  clear hb
  -- THE BANK STAYS
  go_wp2_with fail
  refine wp_region_noPanic ?_
  refine wp_region_held_drew (S := fun W => (W.cell? ⟨ub, 0, none⟩ = some (.slice ua un uc) ∧ W.cell? ⟨ub, 1, none⟩ = some (.slice ud um ue)) ∧ (W.cell? ⟨w.heap.size, 0, none⟩ = some X.vm ∧ W.cell? ⟨w.heap.size, 1, none⟩ = some X.vc)) (by kernel_rfl) ⟨⟨(Q.bx ⟨ub, lou, ⟨.slice ua un uc, .slice ud um ue, X.mon, X.cnt⟩⟩ (by simp)).facts.1, (Q.bx ⟨ub, lou, ⟨.slice ua un uc, .slice ud um ue, X.mon, X.cnt⟩⟩ (by simp)).facts.2.1⟩, Q.arg X rfl⟩ (fun hS => ?_)
  have hbD : Below w9.heap.size w9 w9.drew := (Below.refl _ _).drew
  replace Q := Q.on hbD
  replace cz := cz.below hbD
  replace sx := sx.below hbD
  replace cg := cg.below hbD
  replace hV := Nat.le_trans hV hbD.size
  clear hbD
  refine tkG 0 55 hS ?_
  try simp only [Act.put, List.setIfInBounds_toArray, List.set_cons_zero, List.set_cons_succ]
  refine tkG 1 56 hS ?_
  try simp only [Act.put, List.setIfInBounds_toArray, List.set_cons_zero, List.set_cons_succ]
  revert hS
  revert Q
  revert hV
  revert cz
  revert sx
  revert cg
  generalize w9.drew = V9
  intro cg sx cz hV Q hS
  refine wpAnyH_ready (rs := [2]) (by kernel_rfl) (by simp) ?_
  refine AllReadyH.cons rfl (fun K hK => ?_) AllReadyH.nil
  go_simp
  refine (HTO.out _ (hx.below Q.bel)).mono ?_
  intro e uk h2
  obtain ⟨ka, kn, kc, kd, km, ke, rfl, ok, hb⟩ := h2.open
  clear h2
  replace Q := Q.on hb
  replace cz := cz.below hb
  replace sx := sx.below hb
  replace cg := cg.below hb
  replace hV := Nat.le_trans hV hb.size
  clear hb
  refine hK.out _ _ ⟨⟨(Q.bx ⟨ub, lou, ⟨.slice ua un uc, .slice ud um ue, X.mon, X.cnt⟩⟩ (by simp)).facts.1, (Q.bx ⟨ub, lou, ⟨.slice ua un uc, .slice ud um ue, X.mon, X.cnt⟩⟩ (by simp)).facts.2.1⟩, Q.arg X rfl⟩ (fun hS2 => ?_)
  clear hK K hS
  have hS := hS2
  clear hS2
  try simp only [Act.put, List.setIfInBounds_toArray, List.set_cons_zero, List.set_cons_succ]
  refine wpAnyH_ready (rs := [3]) (by kernel_rfl) (by simp) ?_
  refine AllReadyH.cons rfl (fun K hK => ?_) AllReadyH.nil
  go_simp
  refine (eqBank_same ⟨.slice ua un uc, .slice ud um ue, X.mon, X.cnt⟩ ⟨.slice ka kn kc, .slice kd km ke, X.mon, X.cnt⟩ _ (Q.ow ⟨ub, lou, ⟨.slice ua un uc, .slice ud um ue, X.mon, X.cnt⟩⟩ (by simp)).rd ok.rd rfl rfl).mono ?_
  rintro e w9 ⟨rfl, hb⟩
  replace Q := Q.on hb
  replace cz := cz.below hb
  replace sx := sx.below hb
  replace cg := cg.below hb
  replace hV := Nat.le_trans hV hb.size
  clear hb ok
  refine hK.out _ _ ⟨⟨(Q.bx ⟨ub, lou, ⟨.slice ua un uc, .slice ud um ue, X.mon, X.cnt⟩⟩ (by simp)).facts.1, (Q.bx ⟨ub, lou, ⟨.slice ua un uc, .slice ud um ue, X.mon, X.cnt⟩⟩ (by simp)).facts.2.1⟩, Q.arg X rfl⟩ (fun hS2 => ?_)
  clear hK K hS
  have hS := hS2
  clear hS2
  try simp only [Act.put, List.setIfInBounds_toArray, List.set_cons_zero, List.set_cons_succ]
  refine tkG 4 59 hS ?_
  try simp only [Act.put, List.setIfInBounds_toArray, List.set_cons_zero, List.set_cons_succ]
  refine wpAnyH_done (by kernel_rfl) ?_ _
  refine NoPanic.normal ?_
  clear hS
  -- THE TEXTS STAY
  go_wp2_with fail
  refine (HTT.out _ (HRD.out.below Q.bel)).mono ?_
  rintro e tq ⟨tvq, rfl, sq, hb⟩
  obtain ⟨qa, qc, e3⟩ := ownSl sq
  subst e3
  replace Q := Q.on hb
  replace cz := cz.below hb
  replace sx := sx.below hb
  replace cg := cg.below hb
  replace hV := Nat.le_trans hV hb.size
  clear hb
  go_wp2_with fail
  refine (eqTexts_same _ _ ss _ sx.rd sq.rd).mono ?_
  rintro e w9 ⟨rfl, nq, rfl⟩
  have hb := belowDrw (W := tq) nq
  replace Q := Q.on hb
  replace cz := cz.below hb
  replace sx := sx.below hb
  replace cg := cg.below hb
  replace hV := Nat.le_trans hV hb.size
  clear hb sq
  generalize tq.drewN nq = T9 at Q hV cz sx cg ⊢
  -- THE MARKS OF THE ARGUMENTS
  obtain ⟨p0, p1, -, -⟩ := (Q.bx ⟨ub, lou, ⟨.slice ua un uc, .slice ud um ue, X.mon, X.cnt⟩⟩ (by simp)).facts
  simp only at p0 p1
  go_wp2_with fail
  refine (markBank_any ⟨.slice ua un uc, .slice ud um ue, X.mon, X.cnt⟩ lou 1 _ (Q.ow ⟨ub, lou, ⟨.slice ua un uc, .slice ud um ue, X.mon, X.cnt⟩⟩ (by simp)) (Nat.le_trans NLY.out (by omega))).mono ?_
  rintro e u9 ⟨rfl, -, hto⟩
  have owU := Q.ow ⟨ub, lou, ⟨.slice ua un uc, .slice ud um ue, X.mon, X.cnt⟩⟩ (by simp)
  have QS : QB w T9 (some X) none [⟨gb, log, ⟨.slice ga gn gc, .slice gd gm ge, rm, rc⟩⟩, ⟨zb, loz, ⟨.slice za zn zc, .slice zd zm ze, rm, rc⟩⟩] := Q.sub (by simp)
  have QM := QS.mark owU HLu.out hto (fun i hi k hk e => by
    rcases List.mem_cons.1 hi with rfl | hi
    · exact APgu.out k hk e
    · obtain rfl := List.mem_singleton.1 hi
      exact APuz.out k e hk)
  replace cz : OwnI _ loz (.slice zf zg zh) rk := hto.row cz (fun k hk e => APuk.out k e hk)
  replace cg : OwnI _ log (.slice gf gg gh) rk := hto.row cg (fun k hk e => AKgu.out k e hk)
  replace sx : OwnS _ lox (.slice xa ss.length xc) ss := hto.row sx (fun k hk e => by
    rcases List.mem_append.1 e with e | e
    · exact rows_apart owU.mon sx (by decide) k (mem_oneB.1 e) hk
    · exact rows_apart owU.cnt sx (by decide) k (mem_oneB.1 e) hk)
  replace hV := Nat.le_trans hV hto.size
  have hku : 0 < 1 + cntBk ⟨.slice ua un uc, .slice ud um ue, X.mon, X.cnt⟩ ∧ 1 + cntBk ⟨.slice ua un uc, .slice ud um ue, X.mon, X.cnt⟩ + ss.length ≤ 4194304 := by have := NLY.out; unfold cntBk; simp only; omega
  generalize (1 + cntBk ⟨.slice ua un uc, .slice ud um ue, X.mon, X.cnt⟩ : Nat) = ku at hku ⊢
  clear Q QS hto owU p0 p1
  have Q := QM
  clear QM
  go_wp2_with fail
  refine (smark_any _ ss lox ku _ hku.1 hku.2 sx).mono ?_
  rintro e w9 ⟨rfl, -, hg⟩
  replace Q := Q.turn sx (by decide) HLx.out hg (fun i hi k hk e => by
    rcases List.mem_append.1 hk with h | h
    · exact rows_apart (Q.ow i hi).mon sx (by decide) k (mem_oneB.1 h) e
    · exact rows_apart (Q.ow i hi).cnt sx (by decide) k (mem_oneB.1 h) e)
  replace cz : OwnI _ loz (.slice zf zg zh) rk := rowTurn cz hg (fun k h1 h2 => rows_apart cz sx (by decide) k h1 h2)
  replace cg : OwnI _ log (.slice gf gg gh) rk := rowTurn cg hg (fun k h1 h2 => rows_apart cg sx (by decide) k h1 h2)
  replace hV := Nat.le_trans hV hg.size
  have hk3 : ¬ ((ku + ss.length : Nat) : Int) < 0 := by omega
  generalize ((ku + ss.length : Nat) : Int) = ki at hk3 ⊢
  clear sx hg hku
  obtain ⟨p0, p1, -, -⟩ := (Q.bx ⟨gb, log, ⟨.slice ga gn gc, .slice gd gm ge, rm, rc⟩⟩ (by simp)).facts
  obtain ⟨q0, q1, -, -⟩ := (Q.bx ⟨zb, loz, ⟨.slice za zn zc, .slice zd zm ze, rm, rc⟩⟩ (by simp)).facts
  simp only at p0 p1 q0 q1
  go_wp2_with fail
  refine (HEQ.out _ (Q.ow ⟨gb, log, ⟨.slice ga gn gc, .slice gd gm ge, rm, rc⟩⟩ (by simp)).rd (Q.ow ⟨zb, loz, ⟨.slice za zn zc, .slice zd zm ze, rm, rc⟩⟩ (by simp)).rd).mono ?_
  rintro e w9 ⟨rfl, hb⟩
  replace Q := Q.on hb
  replace cz := cz.below hb
  replace cg := cg.below hb
  replace hV := Nat.le_trans hV hb.size
  clear hb p0 p1 q0 q1
  go_wp2_with fail
  refine (HEK.out _ cg.rd cz.rd).mono ?_
  rintro e w9 ⟨rfl, hb⟩
  replace Q := Q.on hb
  replace cz := cz.below hb
  replace cg := cg.below hb
  replace hV := Nat.le_trans hV hb.size
  clear hb
  -- THE MARKS OF THE ANSWER
  obtain ⟨p0, p1, -, -⟩ := (Q.bx ⟨gb, log, ⟨.slice ga gn gc, .slice gd gm ge, rm, rc⟩⟩ (by simp)).facts
  simp only at p0 p1
  go_wp2_with fail
  refine (HMG.out _ log (Q.ow ⟨gb, log, ⟨.slice ga gn gc, .slice gd gm ge, rm, rc⟩⟩ (by simp))).mono ?_
  rintro e u9 ⟨rfl, owM, hto⟩
  have owG := Q.ow ⟨gb, log, ⟨.slice ga gn gc, .slice gd gm ge, rm, rc⟩⟩ (by simp)
  have bxG := Q.bx ⟨gb, log, ⟨.slice ga gn gc, .slice gd gm ge, rm, rc⟩⟩ (by simp)
  have QS : QB w w9 (some X) none [⟨zb, loz, ⟨.slice za zn zc, .slice zd zm ze, rm, rc⟩⟩] := Q.sub (by simp)
  have QM := QS.mark owG HLg.out hto (fun i hi k hk e => by
    obtain rfl := List.mem_singleton.1 hi
    exact APgz.out k e hk)
  have bxM : BoxBk u9 gb (.slice ga gn gc) (.slice gd gm ge) := bxG.of_block (hto.block _ bxG.lt (bxG.out owG))
  replace cz : OwnI _ loz (.slice zf zg zh) rk := hto.row cz (fun k hk e => APgk.out k e hk)
  replace cg : OwnI _ log (.slice gf gg gh) rk := hto.row cg (fun k hk e => AKgg.out k e hk)
  replace hV := Nat.le_trans hV hto.size
  clear Q QS hto owG bxG p0 p1
  have Q := QB.put (Y := mkBk 1 ⟨.slice ga gn gc, .slice gd gm ge, rm, rc⟩) QM bxM owM
  clear QM bxM owM
  go_wp2_with fail
  refine (imarkZ _ rk log mm (mm : Int) _ rfl (by have := HMC.out; have := NLK.out; omega) cg).mono ?_
  rintro e w9 ⟨rfl, cm, hg⟩
  replace Q := Q.turn cg (by decide) (by have := HLg.out; omega) hg (fun i hi k hk e => by
    rcases List.mem_cons.1 hi with rfl | hi
    · exact AKgg.out k hk e
    · obtain rfl := List.mem_singleton.1 hi
      exact AKgz.out k hk e)
  replace cz : OwnI _ loz (.slice zf zg zh) rk := rowTurn cz hg (fun k h1 h2 => AKgk.out k h1 h2)
  replace hV := Nat.le_trans hV hg.size
  clear cg hg
  have hq1 : ¬ ((mm : Int) < 0) := by omega
  have hq2 : ¬ ((mm : Int) + (rk.length : Int) < 0) := by omega
  have hq3 : ((mm : Int) + (rk.length : Int) != (mm : Int) + (rk.length : Int)) = false := by simp
  obtain ⟨p0, p1, -, -⟩ := (Q.bx ⟨gb, log, mkBk 1 ⟨.slice ga gn gc, .slice gd gm ge, rm, rc⟩⟩ (by simp)).facts
  simp only [mkBk] at p0 p1
  go_wp2_with fail
  refine (HHG.out _ (Q.ow ⟨gb, log, mkBk 1 ⟨.slice ga gn gc, .slice gd gm ge, rm, rc⟩⟩ (by simp)).rd).mono ?_
  rintro e w9 ⟨rfl, hb⟩
  replace Q := Q.on hb
  replace cz := cz.below hb
  replace cm := cm.below hb
  replace hV := Nat.le_trans hV hb.size
  clear hb p0 p1
  go_wp2_with fail
  refine (iheldZ _ rk.length mm (mm : Int) _ rfl (by have := HMC.out; have := NLK.out; omega) cm.rd).mono ?_
  rintro e w9 ⟨rfl, hb⟩
  replace Q := Q.on hb
  replace cz := cz.below hb
  replace cm := cm.below hb
  replace hV := Nat.le_trans hV hb.size
  clear hb
  -- AGAIN
  obtain ⟨d0, d1⟩ := Q.arg X rfl
  go_wp2_with fail
  refine (HTO.out _ (hx.below Q.bel)).mono ?_
  intro e un h2
  obtain ⟨na, nn, nc, nd, nm, ne, rfl, on, hb⟩ := h2.open
  clear h2
  replace Q := Q.on hb
  replace cz := cz.below hb
  replace cm := cm.below hb
  replace hV := Nat.le_trans hV hb.size
  clear d0 d1 hb
  go_wp2_with fail
  refine (HTT.out _ (HRD.out.below Q.bel)).mono ?_
  rintro e tl ⟨tvl, rfl, sl, hb⟩
  obtain ⟨la, lc, e3⟩ := ownSl sl
  subst e3
  replace Q := Q.on hb
  replace cz := cz.below hb
  replace cm := cm.below hb
  replace on := on.below hb
  replace hV := Nat.le_trans hV hb.size
  clear hb
  go_wp2_with fail
  refine (HIM.out _ _ _ _ on.rd sl.rd (HE.out.on Q.bel)).mono ?_
  intro e vj h2
  obtain ⟨ja, jn, jc, jd, jm, je, jf, jg, jh, rfl, oj, cj, apj, hb⟩ := h2.open
  simp only at oj cj apj
  clear h2
  generalize tl.heap.size = loj at oj cj
  replace Q := Q.on hb
  replace cz := cz.below hb
  replace cm := cm.below hb
  replace hV := Nat.le_trans hV hb.size
  have bB := below1 vj (.cells #[.slice ja jn jc, .slice jd jm je] 34)
  have QA := Q.on bB
  replace cz := cz.below bB
  replace cm := cm.below bB
  replace cj := cj.below bB
  replace hV := Nat.le_trans hV bB.size
  replace Q := QB.put (Y := ⟨.slice ja jn jc, .slice jd jm je, rm, rc⟩) QA (boxBk_new _ _ _) (oj.below bB)
  clear QA bB hb oj
  generalize hbq : vj.heap.size = jb at Q
  have HWX : Hid (vj.heap.size = jb) := hbq
  clear hbq
  clear on sl apj
  obtain ⟨p0, p1, -, -⟩ := (Q.bx ⟨jb, loj, ⟨.slice ja jn jc, .slice jd jm je, rm, rc⟩⟩ (by simp)).facts
  obtain ⟨q0, q1, -, -⟩ := (Q.bx ⟨zb, loz, ⟨.slice za zn zc, .slice zd zm ze, rm, rc⟩⟩ (by simp)).facts
  simp only at p0 p1 q0 q1
  go_wp2_with fail
  rw [HWX.out]
  clear HWX
  generalize vj.alloc (.cells #[.slice ja jn jc, .slice jd jm je] 34) = W8 at Q hV cz cm cj p0 p1 q0 q1 ⊢
  refine (eqBank_same ⟨.slice ja jn jc, .slice jd jm je, rm, rc⟩ ⟨.slice za zn zc, .slice zd zm ze, rm, rc⟩ _ (Q.ow ⟨jb, loj, ⟨.slice ja jn jc, .slice jd jm je, rm, rc⟩⟩ (by simp)).rd (Q.ow ⟨zb, loz, ⟨.slice za zn zc, .slice zd zm ze, rm, rc⟩⟩ (by simp)).rd rfl rfl).mono ?_
  rintro e w9 ⟨rfl, hb⟩
  replace Q := Q.on hb
  replace cz := cz.below hb
  replace cm := cm.below hb
  replace cj := cj.below hb
  replace hV := Nat.le_trans hV hb.size
  clear hb p0 p1 q0 q1
  go_wp2_with fail
  refine (eqIntsZ _ _ rk _ cj.rd cz.rd).mono ?_
  rintro e w9 ⟨rfl, hb⟩
  replace Q := Q.on hb
  replace cz := cz.below hb
  replace cm := cm.below hb
  replace cj := cj.below hb
  replace hV := Nat.le_trans hV hb.size
  clear hb
  obtain ⟨p0, p1, -, -⟩ := (Q.bx ⟨gb, log, mkBk 1 ⟨.slice ga gn gc, .slice gd gm ge, rm, rc⟩⟩ (by simp)).facts
  simp only [mkBk] at p0 p1
  go_wp2_with fail
  refine (HHG.out _ (Q.ow ⟨gb, log, mkBk 1 ⟨.slice ga gn gc, .slice gd gm ge, rm, rc⟩⟩ (by simp)).rd).mono ?_
  rintro e w9 ⟨rfl, hb⟩
  replace Q := Q.on hb
  replace cz := cz.below hb
  replace cm := cm.below hb
  replace cj := cj.below hb
  replace hV := Nat.le_trans hV hb.size
  clear hb p0 p1
  go_wp2_with fail
  refine (iheldZ _ rk.length mm (mm : Int) _ rfl (by have := HMC.out; have := NLK.out; omega) cm.rd).mono ?_
  rintro e w9 ⟨rfl, hb⟩
  replace Q := Q.on hb
  replace cz := cz.below hb
  replace cm := cm.below hb
  replace cj := cj.below hb
  replace hV := Nat.le_trans hV hb.size
  clear hb
  go_wp2
  go_ret
  exact ⟨rfl, Q.bel⟩
theorem own_fnExactMovedAll : ownKnob Tryd.prog.godebug = none := by kernel_rfl
theorem laidOut_fnExactMovedAll : laidOutB Tryd.prog = true := by kernel_rfl
theorem door_fnExactMovedAll (os : Os) (args : Array Value) : laidMetH Tryd.prog Rows.fnExactMovedAllRow.laid ((World.laidAll Tryd.prog os Rows.fnExactMovedAllRow.laid).forCall (fun _ _ => 0) ⟨#[], args, []⟩).memory :=
  by rw [MakeChecks.laidMetH_plain _ _ _ (by kernel_rfl)]; exact laidMet_laidAll _ (by kernel_rfl) (by kernel_rfl)
set_option maxRecDepth 100000 in
theorem lifted_fnExactMovedAll (os : Os) (started : os.Started) (H : Type) (enc : TypeId × Value → H) :
    ReturnsInHanded {} Tryd.checked os 4 .any (fun w args => (Rows.fnExactMovedAllSpec.pre enc Tryd.prog Tryd.f4 [] false w args ∧ laidMetH Tryd.prog Rows.fnExactMovedAllRow.laid w) ∧ sizedMet enc Tryd.prog Tryd.f4 (OpenSpec.ofChange Rows.fnExactMovedAllSpec) false w args)
      (Rows.fnExactMovedAllSpec.post enc Tryd.prog Tryd.f4 false true false false) := by
  refine returnsInHanded_of_change_shut (C := Tryd.checked) (X := fun w _ => laidMetH Tryd.prog Rows.fnExactMovedAllRow.laid w) (fun _ _ _ hh h => h.of_heap hh) own_fnExactMovedAll started (by kernel_rfl) Tryd.func4
    (ChangeSpec.witness_shaped (enc := enc) (C := Tryd.checked) (os := os) (X := fun w _ => laidMetH Tryd.prog Rows.fnExactMovedAllRow.laid w) false (World.laidAll Tryd.prog os Rows.fnExactMovedAllRow.laid) #[.agg #[.slice none 0 0, .slice none 0 0], .slice none 0 0] 8 (World.laidAll_os _ _ _) (World.shaped_of_ZipB (by kernel_rfl) (by kernel_rfl)) (by kernel_rfl) (by kernel_rfl) (by kernel_rfl) (door_fnExactMovedAll os _)) ?_
  intro W base args ds gs before hval0 hW _ _ hL hSh _
  have hval : ∀ (j : Nat) t v, Tryd.f4.params[j]? = some t → args[j]? = some v → Value.okWide Tryd.prog W .any base t v := hval0
  have hW' := hW
  obtain ⟨p, q, hA0, hV, rfl, hfz, hnd⟩ := hW
  have hA : DataW.TrodAll enc Tryd.prog W 0 (fun _ => true) true Tryd.f4.params.toList args.toList ds p := hA0
  rw [Tryd.params4] at hA hval
  obtain ⟨v0, vs0, d0, ds0, p0, q0, hargs, rfl, rfl, h0, r0⟩ := trodAll_cons hA
  obtain ⟨v1, vs1, d1, ds1, p1, q1, rfl, rfl, rfl, h1, r1⟩ := trodAll_cons r0
  obtain ⟨rfl, rfl, rfl⟩ := trodAll_nil r1
  obtain rfl : args = #[v0, v1] := by cases args; simp_all
  obtain ⟨rfl, rfl⟩ := trodVars_none hV
  obtain ⟨c0, rfl, _⟩ := okWide_struct Tryd.underlying30 (hval 0 30 v0 rfl rfl)
  have k0 := h0
  have lt0 : ∀ x ∈ p0, x.block < W.heap.size := by obtain ⟨m, hm⟩ := k0; exact DataW.trod_lt m _ _ _ hm
  obtain ⟨X0, hc0, hx0⟩ : ∃ X : BkX, (Value.agg c0).cells.toList = [X.vm, X.vc] ∧ RdBk W X := by obtain ⟨m, hm⟩ := h0; exact open_bank hm
  obtain rfl : c0 = #[X0.vm, X0.vc] := by have h := congrArg List.toArray hc0; simp only [Value.cells, Array.toArray_toList] at h; exact h
  obtain ⟨a1, len1, cap1, rfl⟩ := okWide_slice Tryd.underlying31 (hval 1 31 v1 rfl rfl)
  have k1 := h1
  have lt1 : ∀ x ∈ p1, x.block < W.heap.size := by obtain ⟨m, hm⟩ := k1; exact DataW.trod_lt m _ _ _ hm
  obtain ⟨ss1, hr1, hz1⟩ : ∃ ss, RdS W (.slice a1 len1 cap1) ss ∧ ∀ s ∈ ss, s.size ≤ maxLen := by
    obtain ⟨fuel, hf⟩ := h1
    rcases open_strings Tryd.underlying31 Tryd.underlying9 (by kernel_rfl) hf with ⟨hcs, _⟩ | ⟨x, l, c, zs, hcs, _, hl, hm, hz, _, hcell, hwz⟩
    · simp [Value.cells] at hcs
      obtain ⟨rfl, rfl, rfl⟩ := hcs
      exact ⟨[], rdS_nil W, fun s hs => by cases hs⟩
    · simp [Value.cells] at hcs
      obtain ⟨rfl, rfl, rfl⟩ := hcs
      exact rdS_of hl hm (by simpa using hz) hcell hwz
  have henv := menv_of_laid hL hSh
  clear hA0 hval0
  refine (lawMovedAll X0 _ ss1 W hx0 hr1 hz1 henv).mono fun e W' ⟨he, bel⟩ => ?_
  subst he
  exact ⟨_, rfl, _, _, _, [], _, [], hW', trodAll_mk1 (shut_bool Tryd.underlying4 _), (trodAll_cons_mk (Below.trod laidOut_fnExactMovedAll (by kernel_rfl) (of_decide_eq_true (by kernel_rfl)) k0 bel lt0) (trodAll_cons_mk (Below.trod laidOut_fnExactMovedAll (by kernel_rfl) (of_decide_eq_true (by kernel_rfl)) k1 bel lt1) trodAll_mk0)), rfl, bel.frame _, fun h => by cases h⟩
theorem over_fnExactMovedAll : Rows.fnExactMovedAllRow.holds Tryd.pinned (OpenSpec.ofChange Rows.fnExactMovedAllSpec) :=
  OpenClaim.holds_of_wide 4 Tryd.f4 rfl rfl rfl rfl rfl rfl rfl ⟨rfl, rfl, rfl, rfl, rfl⟩ rfl rfl rfl rfl rfl (by kernel_rfl) Tryd.func4 (by kernel_rfl)
    (of_decide_eq_true (by kernel_rfl)) (by unfold Func.isWrapper; first | (rw [if_pos (by decide +kernel)]; kernel_rfl) | (rw [if_neg (by decide +kernel)]; exact ⟨rfl, rfl⟩))
    (fun os started H enc _ => lifted_fnExactMovedAll os started H enc)
theorem fnExactMovedAll_holds : Rows.FnExactMovedAllCardSaid :=
  Claim7.holds_tied_plain_at .later [] [.data, .data, .data, .data, .sentinel, .sentinel, .pinned] true Rows.fnExactMovedAllCard.stood.harness Rows.fnExactMovedAllCard.stood.looks
    over_fnExactMovedAll (fun _ h => by cases h) (by kernel_rfl) (fun _ h => by cases h) fnExactMovedAll_row_tie rfl ⟨rfl, rfl⟩ (by kernel_rfl) rfl
    (fun f fn hf hfn => by
      obtain rfl : f = 4 := Option.some.inj ((show Tryd.prog.funcNamed "loop.example/g00217/laws.FnExactMovedAll" = some 4 by kernel_rfl).symm.trans hf) |>.symm
      obtain rfl : fn = Tryd.f4 := (Option.some.inj (Tryd.func4.symm.trans hfn)).symm
      exact ⟨by kernel_rfl, fun j t ht => by
        rw [Tryd.params4] at ht
        have hm : t ∈ [30, 31] := by simpa using Array.mem_of_getElem? ht
        have hall : ([30, 31].all fun u => !Tryd.prog.wantsStandIn u) = true := by kernel_rfl
        exact (show Tryd.prog.wantsStandIn t = false by simpa using List.all_eq_true.1 hall t hm)⟩)
    (by kernel_rfl)
#print axioms fnExactMovedAll_holds

end Go.Proofs.YtmgapmhjkamigabDoor
