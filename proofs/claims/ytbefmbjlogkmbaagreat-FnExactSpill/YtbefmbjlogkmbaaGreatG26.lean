/- The contracts of container/heap's up and down at this heap. The contracts of the heap's own Push and Pop. -/
import Derived.Test.YtbefmbjlogkmbaaGreatG25
import Derived.WalkMore
import Derived.Deep.LoopGhost
import Derived.Deep.DeepCutAuto
import Derived.Maps.AppendAt
namespace Go.Proofs.YtbefmbjlogkmbaaGreat
set_option maxHeartbeats 16000000
set_option maxRecDepth 100000
open Go.RowKit
theorem Hp.slices {w0 w : World} {sb : Nat} {v : Value} {hs : List Src} (h : Hp w0 w sb v hs) : ∀ s ∈ hs, ∃ a n c, s.v = .slice a n c := fun s hs => by
  obtain ⟨a, cap, hv, _⟩ := (h.rd s hs).1
  exact ⟨a, _, cap, hv⟩
theorem Hp.swapped {w0 w w' : World} {sb g n cap : Nat} {hs hs2 : List Src} (h : Hp w0 w sb (.slice (some ⟨g, 0, none⟩) n cap) hs) (ho : OwnH w' w0.heap.size (.slice (some ⟨g, 0, none⟩) n cap) hs2) (hg : w.grownBy w' (some g)) (hp : hs2.Perm hs) :
    Hp w0 w' sb (.slice (some ⟨g, 0, none⟩) n cap) hs2 ∧ Hop w (.slice (some ⟨g, 0, none⟩) n cap) sb w' (.slice (some ⟨g, 0, none⟩) n cap) := by
  have hgs : g ≠ sb := h.ne g rfl
  have hgB : w0.heap.size ≤ g := (World.ownsRow.lt h.own g rfl).1
  refine ⟨⟨h.bel.grown hg h.bel.size (fun k hk => by cases hk; exact hgB), h.ge, (hg.block sb h.lt (fun e => hgs (by simpa using e.symm))).trans h.box, ho, h.ne, fun s hs => h.rd s (hp.mem_iff.1 hs), by rw [hp.length_eq]; exact h.few⟩, ⟨hg.size, fun k hk _ hv => hg.block k hk (fun e => hv (by rw [e]; rfl)), fun _ h => .inl h⟩⟩
theorem swapH_any (w0 w : World) (sb : Nat) (v : Value) (hs : List Src) (i j : Nat) (h : Hp w0 w sb v hs) (hi : i < hs.length) (hj : j < hs.length) :
    Calls Tryz.prog 184 #[v, .int .i64 i, .int .i64 j] w fun e w' => e = .returned (.tuple #[]) ∧ Hp w0 w' sb v (swapS hs i j) ∧ Hop w v sb w' v := by
  obtain ⟨g, cap, hv, _, _⟩ := ownH_shape h.own (by omega)
  have hown := h.own
  generalize hs.length = n at hv
  subst hv
  refine (swap_any w _ g n cap hs i j hown hi hj h.slices).mono ?_
  rintro e w' ⟨he, ho, hg⟩
  exact ⟨he, h.swapped ho hg (swapS_perm hi hj)⟩
theorem less_at (w0 w : World) (sb : Nat) (v : Value) (hs : List Src) (i j : Nat) (x y : Int) (L : Bool) (hx : x = (i : Int)) (hy : y = (j : Int)) (h : Hp w0 w sb v hs) (hi : i < hs.length) (hj : j < hs.length) (hL : lessS (sN hs i) (sN hs j) = L) :
    Calls Tryz.prog 181 #[v, .int .i64 x, .int .i64 y] w fun e w' => e = .returned (.bool L) ∧ Below w.heap.size w w' := by
  subst hx; subst hy; subst hL; exact less_any w0 w sb v hs i j h hi hj
theorem swapH_at (w0 w : World) (sb : Nat) (v : Value) (hs : List Src) (i j : Nat) (x y : Int) (hx : x = (i : Int)) (hy : y = (j : Int)) (h : Hp w0 w sb v hs) (hi : i < hs.length) (hj : j < hs.length) :
    Calls Tryz.prog 184 #[v, .int .i64 x, .int .i64 y] w fun e w' => e = .returned (.tuple #[]) ∧ Hp w0 w' sb v (swapS hs i j) ∧ Hop w v sb w' v := by
  subst hx; subst hy; exact swapH_any w0 w sb v hs i j h hi hj
def UpPost (w0 w : World) (sb : Nat) (v : Value) (hs : List Src) (e : Ending) (w' : World) : Prop :=
  ∃ hs', e = .returned (.tuple #[]) ∧ Hp w0 w' sb v hs' ∧ hs'.Perm hs ∧ HP hs' hs'.length ∧ Hop w v sb w' v
theorem up_any (w0 w : World) (sb : Nat) (v : Value) (hs : List Src) (j : Nat) (h : Hp w0 w sb v hs) (hj : j < hs.length) (hu : upOk hs j) :
    Calls Tryz.prog 160 #[.iface 141 (.pointer (some ⟨sb, 0, none⟩)), .int .i64 j] w fun e w' => UpPost w0 w sb v hs e w' := by
  have hf := h.few
  go_enter Tryz.func160, Tryz.ntmps160
  go_wp2
  go_loopw [1] (fun jv wr => ∃ (jn : Nat) (hs1 : List Src), jv = .int .i64 jn ∧ jn < hs1.length ∧ jn ≤ 20 ∧ Hp w0 wr sb v hs1 ∧ Hid (hs1.Perm hs) ∧ Hid (upOk hs1 jn) ∧ Hop w v sb wr v) (fun jv _ => (intOf jv).toNat)
  case atStart => exact ⟨j, hs, rfl, hj, by omega, h, List.Perm.refl _, hu, Hop.refl _ _ _⟩
  case round =>
    obtain ⟨jn, hs1, rfl, hj1, hj20, h1, HPM, HUO, hop⟩ := hrel
    clear h hu hj
    cases jn with
    | zero =>
      have HE : Hid (UpPost w0 w sb v hs (.returned (.tuple #[])) wr) := ⟨hs1, rfl, h1, HPM.out, up_zero HUO.out, hop⟩
      clear h1 hop
      go_wp2
      go_end0
      exact HE.out
    | succ m =>
      obtain ⟨i, hi⟩ : ∃ i, i = m / 2 := ⟨_, rfl⟩
      have hii : i < hs1.length := by omega
      have him : i < m + 1 := by omega
      have hpi : (m + 1 - 1) / 2 = i := by omega
      have HI : Hid (i = m / 2) := hi
      have hq := m_Less wr sb v h1.cell
      cases hl : lessS (sN hs1 (m + 1)) (sN hs1 i) with
      | true =>
        have HUO2 : Hid (upOk (swapS hs1 i (m + 1)) i) := by
          have := up_step hj1 (by omega) HUO.out (by rw [hpi]; exact hl)
          rw [hpi] at this; exact this
        have HPM2 : Hid ((swapS hs1 i (m + 1)).Perm hs) := (swapS_perm hii hj1).trans HPM.out
        go_wp2_with fail
        refine (less_at w0 _ sb v hs1 (m + 1) i _ _ true ?e1 ?e2 h1 hj1 hii hl).mono ?_
        case e1 => omega
        case e2 => omega
        rintro e w2 ⟨rfl, hb2⟩
        have h2 := h1.below hb2
        have hop2 := hop.trans (Hop.below hb2)
        have hq2 := m_Swap w2 sb v h2.cell
        clear h1 hop hb2 hq
        go_wp2_with fail
        refine (swapH_at w0 _ sb v hs1 i (m + 1) _ _ ?e3 ?e4 h2 hii hj1).mono ?_
        case e3 => omega
        case e4 => omega
        rintro e w3 ⟨rfl, h3, hop3⟩
        have hop4 := hop2.trans hop3
        clear h2 hop2 hop3 hq2
        go_wp2
        go_roundw
        case rel => exact ⟨i, _, by first | rfl | go_num | (congr 1; omega), by rw [swapS_len]; exact hii, by omega, h3, HPM2, HUO2, hop4⟩
        case measure => simp [intOf]; omega
      | false =>
        go_wp2_with fail
        refine (less_at w0 _ sb v hs1 (m + 1) i _ _ false ?e1 ?e2 h1 hj1 hii hl).mono ?_
        case e1 => omega
        case e2 => omega
        rintro e w2 ⟨rfl, hb2⟩
        have HE : Hid (UpPost w0 w sb v hs (.returned (.tuple #[])) w2) := ⟨hs1, rfl, h1.below hb2, HPM.out, up_stop HUO.out (by rw [hpi]; exact hl), hop.trans (Hop.below hb2)⟩
        clear h1 hop hb2 hq
        go_wp2
        go_end0
        exact HE.out
def DnPost (w0 w : World) (sb : Nat) (v : Value) (hs : List Src) (n : Nat) (e : Ending) (w' : World) : Prop :=
  ∃ hs' b, e = .returned (.bool b) ∧ Hp w0 w' sb v hs' ∧ hs'.Perm hs ∧ (∀ k, n ≤ k → sN hs' k = sN hs k) ∧ HP hs' n ∧ Hop w v sb w' v
theorem down_any (w0 w : World) (sb : Nat) (v : Value) (hs : List Src) (n : Nat) (x : Int) (hx : x = (n : Int)) (h : Hp w0 w sb v hs) (hn : n < hs.length) (hu : dnOk hs 0 n) :
    Calls Tryz.prog 161 #[.iface 141 (.pointer (some ⟨sb, 0, none⟩)), .int .i64 0, .int .i64 x] w fun e w' => DnPost w0 w sb v hs n e w' := by
  subst hx
  have hf := h.few
  go_enter Tryz.func161, Tryz.ntmps161
  go_wp2
  go_loopw [7] (fun jv wr => ∃ (i : Nat) (hs1 : List Src), jv = .int .i64 i ∧ i ≤ 20 ∧ i ≤ n ∧ n < hs1.length ∧ Hp w0 wr sb v hs1 ∧ Hid (hs1.Perm hs) ∧ Hid (∀ k, n ≤ k → sN hs1 k = sN hs k) ∧ Hid (dnOk hs1 i n) ∧ Hop w v sb wr v) (fun jv _ => n - (intOf jv).toNat)
  case atStart => exact ⟨0, hs, rfl, by omega, by omega, hn, h, List.Perm.refl _, (fun k _ => rfl), hu, Hop.refl _ _ _⟩
  case round =>
    obtain ⟨i, hs1, rfl, hi20, hin, hn1, h1, HPM, HTL, HUO, hop⟩ := hrel
    clear h hu hn
    by_cases hj : n ≤ 2 * i + 1
    · skip
      have HE : Hid (∀ b, DnPost w0 w sb v hs n (.returned (.bool b)) wr) := fun b => ⟨hs1, b, rfl, h1, HPM.out, HTL.out, dn_end HUO.out hj, hop⟩
      have hj2 : (n : Int) ≤ 2 * (i : Int) + 1 := by omega
      clear h1 hop
      go_wp2
      go_ret
      exact HE.out _
    · skip
      have hj2 : ¬ (n : Int) ≤ 2 * (i : Int) + 1 := by omega
      have hj3 : ¬ 2 * (i : Int) + 1 < 0 := by omega
      have hn20 : n ≤ 20 := by have := h1.few; omega
      have hq := m_Less wr sb v h1.cell
      by_cases hr : 2 * i + 2 < n
      · have hr2 : 2 * (i : Int) + 1 + 1 < (n : Int) := by omega
        cases hb : lessS (sN hs1 (2 * i + 2)) (sN hs1 (2 * i + 1)) with
        | true =>
          have HC : Hid (∀ k, k < n → k = 2 * i + 1 ∨ k = 2 * i + 2 → lessS (sN hs1 k) (sN hs1 (2 * i + 2)) = false) := fun k _ hk => by
            rcases hk with rfl | rfl
            · exact lessS_asymm hb
            · exact ltT_irrefl _ _
          go_wp2_with fail
          refine (less_at w0 _ sb v hs1 (2 * i + 2) (2 * i + 1) _ _ true ?e1 ?e2 h1 (by omega) (by omega) hb).mono ?_
          case e1 => omega
          case e2 => omega
          rintro e w2 ⟨rfl, hb2⟩
          have h2 := h1.below hb2
          have hop2 := hop.trans (Hop.below hb2)
          have hq2 := m_Less w2 sb v h2.cell
          clear h1 hop hb2 hq
          have hjl : 2 * i + 2 < hs1.length := by omega
          have hil : i < hs1.length := by omega
          cases hl : lessS (sN hs1 (2 * i + 2)) (sN hs1 i) with
          | true =>
            have HUO2 : Hid (dnOk (swapS hs1 i (2 * i + 2)) (2 * i + 2) n) := dn_step (by omega) (by omega) (by omega) HUO.out HC.out hl
            have HPM2 : Hid ((swapS hs1 i (2 * i + 2)).Perm hs) := (swapS_perm hil hjl).trans HPM.out
            have HTL2 : Hid (∀ k, n ≤ k → sN (swapS hs1 i (2 * i + 2)) k = sN hs k) := fun k hk => by rw [sN_swap hil hjl, if_neg (by omega), if_neg (by omega)]; exact HTL.out k hk
            go_wp2_with fail
            refine (less_at w0 _ sb v hs1 (2 * i + 2) i _ _ true ?e1 ?e2 h2 hjl hil hl).mono ?_
            case e1 => omega
            case e2 => omega
            rintro e w5 ⟨rfl, hb5⟩
            have h5 := h2.below hb5
            have hop5 := hop2.trans (Hop.below hb5)
            have hq5 := m_Swap w5 sb v h5.cell
            clear hb5 h2 hop2 hq2
            go_wp2_with fail
            refine (swapH_at w0 _ sb v hs1 i (2 * i + 2) _ _ ?e3 ?e4 h5 hil hjl).mono ?_
            case e3 => omega
            case e4 => omega
            rintro e w6 ⟨rfl, h6, hop6⟩
            have hop7 := hop5.trans hop6
            clear h5 hop5 hop6 hq5
            go_wp2
            go_roundw
            case rel => exact ⟨2 * i + 2, _, by first | rfl | go_num | (congr 1; omega), by omega, by omega, by rw [swapS_len]; exact hn1, h6, HPM2, HTL2, HUO2, hop7⟩
            case measure => simp [intOf]; omega
          | false =>
            go_wp2_with fail
            refine (less_at w0 _ sb v hs1 (2 * i + 2) i _ _ false ?e1 ?e2 h2 hjl hil hl).mono ?_
            case e1 => omega
            case e2 => omega
            rintro e w5 ⟨rfl, hb5⟩
            have HE : Hid (∀ b, DnPost w0 w sb v hs n (.returned (.bool b)) w5) := fun b => ⟨hs1, b, rfl, h2.below hb5, HPM.out, HTL.out, dn_stop HUO.out HC.out hl, hop2.trans (Hop.below hb5)⟩
            clear hb5 h2 hop2 hq2
            go_wp2
            go_ret
            exact HE.out _
        | false =>
          have HC : Hid (∀ k, k < n → k = 2 * i + 1 ∨ k = 2 * i + 2 → lessS (sN hs1 k) (sN hs1 (2 * i + 1)) = false) := fun k _ hk => by
            rcases hk with rfl | rfl
            · exact ltT_irrefl _ _
            · exact hb
          go_wp2_with fail
          refine (less_at w0 _ sb v hs1 (2 * i + 2) (2 * i + 1) _ _ false ?e1 ?e2 h1 (by omega) (by omega) hb).mono ?_
          case e1 => omega
          case e2 => omega
          rintro e w2 ⟨rfl, hb2⟩
          have h2 := h1.below hb2
          have hop2 := hop.trans (Hop.below hb2)
          have hq2 := m_Less w2 sb v h2.cell
          clear h1 hop hb2 hq
          have hjl : 2 * i + 1 < hs1.length := by omega
          have hil : i < hs1.length := by omega
          cases hl : lessS (sN hs1 (2 * i + 1)) (sN hs1 i) with
          | true =>
            have HUO2 : Hid (dnOk (swapS hs1 i (2 * i + 1)) (2 * i + 1) n) := dn_step (by omega) (by omega) (by omega) HUO.out HC.out hl
            have HPM2 : Hid ((swapS hs1 i (2 * i + 1)).Perm hs) := (swapS_perm hil hjl).trans HPM.out
            have HTL2 : Hid (∀ k, n ≤ k → sN (swapS hs1 i (2 * i + 1)) k = sN hs k) := fun k hk => by rw [sN_swap hil hjl, if_neg (by omega), if_neg (by omega)]; exact HTL.out k hk
            go_wp2_with fail
            refine (less_at w0 _ sb v hs1 (2 * i + 1) i _ _ true ?e1 ?e2 h2 hjl hil hl).mono ?_
            case e1 => omega
            case e2 => omega
            rintro e w5 ⟨rfl, hb5⟩
            have h5 := h2.below hb5
            have hop5 := hop2.trans (Hop.below hb5)
            have hq5 := m_Swap w5 sb v h5.cell
            clear hb5 h2 hop2 hq2
            go_wp2_with fail
            refine (swapH_at w0 _ sb v hs1 i (2 * i + 1) _ _ ?e3 ?e4 h5 hil hjl).mono ?_
            case e3 => omega
            case e4 => omega
            rintro e w6 ⟨rfl, h6, hop6⟩
            have hop7 := hop5.trans hop6
            clear h5 hop5 hop6 hq5
            go_wp2
            go_roundw
            case rel => exact ⟨2 * i + 1, _, by first | rfl | go_num | (congr 1; omega), by omega, by omega, by rw [swapS_len]; exact hn1, h6, HPM2, HTL2, HUO2, hop7⟩
            case measure => simp [intOf]; omega
          | false =>
            go_wp2_with fail
            refine (less_at w0 _ sb v hs1 (2 * i + 1) i _ _ false ?e1 ?e2 h2 hjl hil hl).mono ?_
            case e1 => omega
            case e2 => omega
            rintro e w5 ⟨rfl, hb5⟩
            have HE : Hid (∀ b, DnPost w0 w sb v hs n (.returned (.bool b)) w5) := fun b => ⟨hs1, b, rfl, h2.below hb5, HPM.out, HTL.out, dn_stop HUO.out HC.out hl, hop2.trans (Hop.below hb5)⟩
            clear hb5 h2 hop2 hq2
            go_wp2
            go_ret
            exact HE.out _
      · have hr2 : ¬ 2 * (i : Int) + 1 + 1 < (n : Int) := by omega
        have HC : Hid (∀ k, k < n → k = 2 * i + 1 ∨ k = 2 * i + 2 → lessS (sN hs1 k) (sN hs1 (2 * i + 1)) = false) := fun k hk0 hk => by
          rcases hk with rfl | rfl
          · exact ltT_irrefl _ _
          · omega
        have hjl : 2 * i + 1 < hs1.length := by omega
        have hil : i < hs1.length := by omega
        cases hl : lessS (sN hs1 (2 * i + 1)) (sN hs1 i) with
        | true =>
          have HUO2 : Hid (dnOk (swapS hs1 i (2 * i + 1)) (2 * i + 1) n) := dn_step (by omega) (by omega) (by omega) HUO.out HC.out hl
          have HPM2 : Hid ((swapS hs1 i (2 * i + 1)).Perm hs) := (swapS_perm hil hjl).trans HPM.out
          have HTL2 : Hid (∀ k, n ≤ k → sN (swapS hs1 i (2 * i + 1)) k = sN hs k) := fun k hk => by rw [sN_swap hil hjl, if_neg (by omega), if_neg (by omega)]; exact HTL.out k hk
          go_wp2_with fail
          refine (less_at w0 _ sb v hs1 (2 * i + 1) i _ _ true ?e1 ?e2 h1 hjl hil hl).mono ?_
          case e1 => omega
          case e2 => omega
          rintro e w5 ⟨rfl, hb5⟩
          have h5 := h1.below hb5
          have hop5 := hop.trans (Hop.below hb5)
          have hq5 := m_Swap w5 sb v h5.cell
          clear hb5 h1 hop hq
          go_wp2_with fail
          refine (swapH_at w0 _ sb v hs1 i (2 * i + 1) _ _ ?e3 ?e4 h5 hil hjl).mono ?_
          case e3 => omega
          case e4 => omega
          rintro e w6 ⟨rfl, h6, hop6⟩
          have hop7 := hop5.trans hop6
          clear h5 hop5 hop6 hq5
          go_wp2
          go_roundw
          case rel => exact ⟨2 * i + 1, _, by first | rfl | go_num | (congr 1; omega), by omega, by omega, by rw [swapS_len]; exact hn1, h6, HPM2, HTL2, HUO2, hop7⟩
          case measure => simp [intOf]; omega
        | false =>
          go_wp2_with fail
          refine (less_at w0 _ sb v hs1 (2 * i + 1) i _ _ false ?e1 ?e2 h1 hjl hil hl).mono ?_
          case e1 => omega
          case e2 => omega
          rintro e w5 ⟨rfl, hb5⟩
          have HE : Hid (∀ b, DnPost w0 w sb v hs n (.returned (.bool b)) w5) := fun b => ⟨hs1, b, rfl, h1.below hb5, HPM.out, HTL.out, dn_stop HUO.out HC.out hl, hop.trans (Hop.below hb5)⟩
          clear hb5 h1 hop hq
          go_wp2
          go_ret
          exact HE.out _
open Go.RowKit
theorem step_append_src {w : World} {ops : Array Oper} {o : Oper} {a : Act} {K : Act → World → Prop} {Q : Exit → Act → World → Prop} {E : Prop} (hgd : o.guard = none) (d : Nat) (hd : o.dst = some d) (s x : Operand)
    (ho : o.op = .call { callee := .builtin .append, args := #[s, x], argTypes := #[143, 143] }) (base : Nat) (v : Value) (b : Nat) (hs : List Src) (c : Src) (hv : a.eval s = v) (hx : a.eval x = .slice (some ⟨b, 0, none⟩) 1 1) (hown : OwnH w base v hs) (hc : SrcAt w b 0 c) (hc1 : c.v.oneCell' = true)
    (hl : hs.length ≤ 1000000) (hbase : base ≤ w.heap.size)
    (h : ∀ v' w', OwnH w' base v' (hs ++ [c]) → w.grownBy w' v.ownBlock → (v'.ownBlock = v.ownBlock ∨ v'.ownBlock = some w.heap.size) → K (a.put (some d) v') w') :
    if Region.wanted o (yielded ops a.tmps) = true then Oper.wp Tryz.prog o a w K Q else E := by
  have hw : Region.wanted o (yielded ops a.tmps) = true := by simp [Region.wanted, hgd]
  rw [if_pos hw]
  obtain ⟨i0, hi, hz0, hz1, hz2⟩ := info_parts Tryz.info167
  obtain ⟨v', w', hrun, r1, r2, _, r3⟩ := run_append_own_at (P := Tryz.prog) w base 143 o.type 167 i0 _ 2 32 Tryz.underlying143 hi hz0 hz1 hz2 rfl (by decide) v hs.length (HV hs) hown ⟨b, 0, none⟩ 1 1 (HCs c) rfl
    (by
      intro j u hj
      match j, hj with
      | 0, hj => simp [HCs] at hj; subst hj; simpa [Addr.add] using hc.1
      | 1, hj => simp [HCs] at hj; subst hj; simpa [Addr.add] using hc.2)
    (by
      intro u hu
      simp only [HCs, List.mem_cons, List.not_mem_nil, or_false] at hu
      rcases hu with rfl | rfl
      · exact hc1
      · rfl) (by unfold maxLen; omega) (by omega) hbase
  have r1' : OwnH w' base v' (hs ++ [c]) := by
    unfold OwnH
    rw [HV_append, HV_one, List.length_append]
    exact r1
  unfold Oper.wp
  simp [execOp, ho, resolve, invoke, builtin, hv, hx, hrun, Result.andThen]
  have h' := h v' w' r1' r2 r3
  rw [← hd] at h'
  exact h'
theorem src_new (w : World) (s : Src) (t : TypeId) : SrcAt (w.alloc (.cells #[s.v, .int .i64 s.no] t)) w.heap.size 0 s := by
  constructor <;> simp [World.cell?_alloc_at]
theorem box_set {w : World} {b : Nat} {v u : Value} {t : TypeId} (h : w.heap[b]? = some (.cells #[v] t (0, 0))) : (w.setCell ⟨b, 0, none⟩ u).heap[b]? = some (.cells #[u] t (0, 0)) := by
  have := heap_setCell_same w b 0 #[v] t u h
  simpa using this
theorem box_frozen {w : World} {b : Nat} {v : Value} {t : TypeId} (h : w.heap[b]? = some (.cells #[v] t (0, 0))) : w.frozen? ⟨b, 0, none⟩ = false := by simp [World.frozen?, h]
theorem run_assert_src (w : World) (x : Value) : (Instr.typeAssert (.iface 167 x) 20 167 false).run Tryz.prog w = .ok x w := by kernel_rfl
def PushPost (w0 w : World) (sb : Nat) (v : Value) (hs : List Src) (e : Ending) (w' : World) : Prop :=
  ∃ v', e = .returned (.tuple #[]) ∧ Hp w0 w' sb v' hs ∧ Hop w v sb w' v'
theorem ownH_kept {w w' : World} {B : Nat} {v : Value} {hs : List Src} (h : OwnH w B v hs) (hb : ∀ k, v.ownBlock = some k → w'.heap[k]? = w.heap[k]?) : OwnH w' B v hs := by
  refine ⟨h.1, ?_⟩
  rcases h.2 with h2 | ⟨g, cap, cur, hv, hg, hh, r⟩
  · exact .inl h2
  · exact .inr ⟨g, cap, cur, hv, hg, by rw [hb g (by rw [hv]; rfl)]; exact hh, r⟩
theorem Hp.pushed {w0 w w1 w2 : World} {sb : Nat} {v v' : Value} {hs : List Src} {s : Src} (h : Hp w0 w sb v hs) (b1 : Below w.heap.size w w1) (ho : OwnH w2 w0.heap.size v' (hs ++ [s])) (hg : w1.grownBy w2 v.ownBlock) (hv : v'.ownBlock = v.ownBlock ∨ v'.ownBlock = some w1.heap.size)
    (hr : RdE w0 s.v s.es) (hne : s.es ≠ []) (hf : hs.length < 20) : Hp w0 (w2.setCell ⟨sb, 0, none⟩ v') sb v' (hs ++ [s]) ∧ Hop w v sb (w2.setCell ⟨sb, 0, none⟩ v') v' := by
  have h1 := h.below b1
  have hvs : ∀ k, v'.ownBlock = some k → k ≠ sb := fun k hk => by
    rcases hv with e | e
    · exact h.ne k (by rw [← e]; exact hk)
    · rw [e] at hk; have := Option.some.inj hk; have := h1.lt; omega
  have hbox : w2.heap[sb]? = some (.cells #[v] 143 (0, 0)) := (hg.block sb h1.lt (fun e => h.ne sb e.symm rfl)).trans h1.box
  have bel2 : Below w0.heap.size w0 w2 := h1.bel.grown hg h1.bel.size (fun k hk => (World.ownsRow.lt h1.own k hk).1)
  refine ⟨⟨bel2.setCell h.ge _, h.ge, box_set hbox, ownH_kept ho (fun k hk => heap_setCell_other w2 ⟨sb, 0, none⟩ k v' (fun e => hvs k hk (by simpa using e))), hvs, fun x hx => ?_, by rw [List.length_append]; simp; omega⟩, ⟨?_, fun k hk hks hkv => ?_, fun k hk => ?_⟩⟩
  · rcases List.mem_append.1 hx with hx | hx
    · exact h.rd x hx
    · rw [List.mem_singleton.1 hx]; exact ⟨hr, hne⟩
  · have := b1.size; have := hg.size; simp; omega
  · rw [heap_setCell_other w2 ⟨sb, 0, none⟩ k v' (fun e => hks (by simpa using e))]
    rw [hg.block k (Nat.lt_of_lt_of_le hk b1.size) (fun e => hkv e.symm)]
    exact b1.block k hk
  · rcases hv with e | e
    · exact .inl (by rw [← e]; exact hk)
    · rw [e] at hk; have := Option.some.inj hk; have := b1.size; exact .inr (by omega)
theorem push_any (w0 w : World) (sb : Nat) (v : Value) (hs : List Src) (s : Src) (h : Hp w0 w sb v hs) (hr : RdE w0 s.v s.es) (hne : s.es ≠ []) (hf : hs.length < 20) :
    Calls Tryz.prog 183 #[.pointer (some ⟨sb, 0, none⟩), .iface 167 (.agg #[s.v, .int .i64 s.no])] w fun e w' => PushPost w0 w sb v (hs ++ [s]) e w' := by
  obtain ⟨sv, ses, no⟩ := s
  obtain ⟨sa, sc, hsv, -⟩ := id hr
  simp only at hsv
  obtain ⟨sn, hsn⟩ : ∃ sn, sn = ses.length := ⟨_, rfl⟩
  rw [← hsn] at hsv
  subst hsv
  obtain ⟨a, cap, hv, -⟩ := ownH_len h.own
  obtain ⟨n, hn⟩ : ∃ n, n = hs.length := ⟨_, rfl⟩
  rw [← hn] at hv
  subst hv
  have HH : Hid (Hp w0 w sb (.slice a n cap) hs) := h
  have hce := h.cell
  have hfz := box_frozen h.box
  have HPU : Hid (∀ w1 w2 v', Below w.heap.size w w1 → OwnH w2 w0.heap.size v' (hs ++ [⟨.slice sa sn sc, ses, no⟩]) → w1.grownBy w2 (Value.slice a n cap).ownBlock → (v'.ownBlock = (Value.slice a n cap).ownBlock ∨ v'.ownBlock = some w1.heap.size) →
      (∃ cc, w2.cell? ⟨sb, 0, none⟩ = some cc) ∧ w2.frozen? ⟨sb, 0, none⟩ = false ∧ Hp w0 (w2.setCell ⟨sb, 0, none⟩ v') sb v' (hs ++ [⟨.slice sa sn sc, ses, no⟩]) ∧ Hop w (.slice a n cap) sb (w2.setCell ⟨sb, 0, none⟩ v') v') := fun w1 w2 v' b1 b2 b3 b4 => by
    have h1 := h.below b1
    have hbox : w2.heap[sb]? = some (.cells #[.slice a n cap] 143 (0, 0)) := (b3.block sb h1.lt (fun e => h.ne sb e.symm rfl)).trans h1.box
    exact ⟨⟨.slice a n cap, by simp [World.cell?, hbox]⟩, box_frozen hbox, h.pushed b1 b2 b3 b4 hr hne hf⟩
  have HB : Hid (w0.heap.size ≤ w.heap.size) := h.bel.size
  have hta := fun W => run_assert_src W (.agg #[.slice sa sn sc, .int .i64 no])
  have HF : Hid (hs.length ≤ 1000000) := by unfold Hid; omega
  clear hne hf hr hn hsn h
  go_enter Tryz.func183, Tryz.ntmps183
  go_wp2_with fail
  refine wp_region_noPanic ?_
  refine wp_region_held_drew (S := fun _ => True) (by kernel_rfl) trivial (fun hH => ?_)
  refine takeH (i := 0) (d := 4) (v := ?_) rfl rfl (by kernel_rfl) (by kernel_rfl) (by kernel_rfl) (fun _ _ _ h => h) (Or.inl ⟨by kernel_rfl, ?_⟩) hH ?_
  rotate_left 1
  · intro w hS; (try dsimp only [EntAt, SrcAt, Nat.zero_add] at hS); go_simp; (try with_reducible rfl)
  try simp only [Act.put, sA, sZ, sS]
  refine takeH (i := 1) (d := 5) (v := ?_) rfl rfl (by kernel_rfl) (by kernel_rfl) (by kernel_rfl) (fun _ _ _ h => h) (Or.inl ⟨by kernel_rfl, ?_⟩) hH ?_
  rotate_left 1
  · intro w hS; (try dsimp only [EntAt, SrcAt, Nat.zero_add] at hS); go_simp; (try with_reducible rfl)
  try simp only [Act.put, sA, sZ, sS]
  refine takeH (i := 2) (d := 6) (v := ?_) rfl rfl (by kernel_rfl) (by kernel_rfl) (by kernel_rfl) (fun _ _ _ h => h) (Or.inl ⟨by kernel_rfl, ?_⟩) hH ?_
  rotate_left 1
  · intro w hS; (try dsimp only [EntAt, SrcAt, Nat.zero_add] at hS); go_simp; (try with_reducible rfl)
  try simp only [Act.put, sA, sZ, sS]
  refine takeH (i := 4) (d := 8) (v := ?_) rfl rfl (by kernel_rfl) (by kernel_rfl) (by kernel_rfl) (fun _ _ _ h => h) (Or.inl ⟨by kernel_rfl, ?_⟩) hH ?_
  rotate_left 1
  · intro w hS; (try dsimp only [EntAt, SrcAt, Nat.zero_add] at hS); go_simp; (try with_reducible rfl)
  try simp only [Act.put, sA, sZ, sS]
  refine takeH (i := 5) (d := 9) (v := ?_) rfl rfl (by kernel_rfl) (by kernel_rfl) (by kernel_rfl) (fun _ _ _ h => h) (Or.inl ⟨by kernel_rfl, ?_⟩) hH ?_
  rotate_left 1
  · intro w hS; (try dsimp only [EntAt, SrcAt, Nat.zero_add] at hS); go_simp; (try with_reducible rfl)
  try simp only [Act.put, sA, sZ, sS]
  refine wpAnyH_ready (rs := [3, 6]) (by kernel_rfl) (by simp) ?_
  refine AllReadyH.cons rfl (fun K hK => ?_) ?_
  · go_simp
    refine hK.out _ _ trivial (fun hH => ?_)
    clear hK K
    try simp only [Act.put, sA, sZ, sS]
    refine wpAnyH_ready (rs := [6]) (by kernel_rfl) (by simp) ?_
    refine AllReadyH.cons rfl (fun K hK => ?_) AllReadyH.nil
    go_simp
    refine hK.out _ _ trivial (fun hH => ?_)
    clear hK K
    try simp only [Act.put, sA, sZ, sS]
    have b1 : Below w.heap.size w (w.drew.alloc (.cells #[.slice sa sn sc, .int .i64 no] 167)) := ((Below.refl w.heap.size w).drew).alloc (Nat.le_refl _) _
    have hoV : OwnH (w.drew.alloc (.cells #[.slice sa sn sc, .int .i64 no] 167)) w0.heap.size (.slice a n cap) hs := HH.out.own.below b1
    have hsV : SrcAt (w.drew.alloc (.cells #[.slice sa sn sc, .int .i64 no] 167)) w.heap.size 0 ⟨.slice sa sn sc, ses, no⟩ := src_new w.drew ⟨.slice sa sn sc, ses, no⟩ _
    have hbV : w0.heap.size ≤ (w.drew.alloc (.cells #[.slice sa sn sc, .int .i64 no] 167)).heap.size := Nat.le_trans HB.out b1.size
    clear hce hfz
    try simp only [World.drew_alloc] at b1 hoV hsV hbV
    refine wpAnyH_ready (rs := [7]) (by kernel_rfl) (by simp) ?_
    refine AllReadyH.cons rfl (fun K hK => ?_) AllReadyH.nil
    refine step_append_src rfl 11 rfl (.tmp 7) (.tmp 10) rfl w0.heap.size _ _ hs ⟨.slice sa sn sc, ses, no⟩ rfl rfl hoV hsV rfl HF.out hbV ?_
    intro v2 w2 ho2 hg2 hv2
    obtain ⟨⟨cc, hcc⟩, hfz2, hp2, hop2⟩ := HPU.out _ w2 v2 b1 ho2 hg2 hv2
    obtain ⟨a2, c2, hva, -⟩ := ownH_len ho2
    generalize (hs ++ [(⟨.slice sa sn sc, ses, no⟩ : Src)]).length = n2 at hva
    subst hva
    clear hoV hsV hbV ho2 hg2 hv2 b1
    refine hK.out _ _ trivial (fun hH => ?_)
    clear hK K
    try simp only [Act.put, sA, sZ, sS]
    refine takeH (i := 8) (d := 12) (v := ?_) rfl rfl (by kernel_rfl) (by kernel_rfl) (by kernel_rfl) (fun _ _ _ h => h) (Or.inl ⟨by kernel_rfl, ?_⟩) hH ?_
    rotate_left 1
    · intro w hS; (try dsimp only [EntAt, SrcAt, Nat.zero_add] at hS); go_simp; (try with_reducible rfl)
    try simp only [Act.put, sA, sZ, sS]
    refine wpAnyH_ready (rs := [9]) (by kernel_rfl) (by simp) ?_
    refine AllReadyH.cons rfl (fun K hK => ?_) AllReadyH.nil
    go_simp
    refine hK.out _ _ trivial (fun hH => ?_)
    clear hK K
    try simp only [Act.put, sA, sZ, sS]
    refine wpAnyH_done (by kernel_rfl) ?_ _
    refine NoPanic.normal ?_
    go_end0
    exact ⟨_, rfl, hp2, hop2⟩
  · refine AllReadyH.cons rfl (fun K hK => ?_) AllReadyH.nil
    go_simp
    refine hK.out _ _ trivial (fun hH => ?_)
    clear hK K
    try simp only [Act.put, sA, sZ, sS]
    have hce2 := ((below1 w (.cells #[.slice sa sn sc, .int .i64 no] 167)).cell (World.block_lt_of_cell? w _ hce)).trans hce
    refine wpAnyH_ready (rs := [3]) (by kernel_rfl) (by simp) ?_
    refine AllReadyH.cons rfl (fun K hK => ?_) AllReadyH.nil
    go_simp
    refine hK.out _ _ trivial (fun hH => ?_)
    clear hK K
    try simp only [Act.put, sA, sZ, sS]
    clear hce2
    have b1 : Below w.heap.size w (w.drew.alloc (.cells #[.slice sa sn sc, .int .i64 no] 167)) := ((Below.refl w.heap.size w).drew).alloc (Nat.le_refl _) _
    have hoV : OwnH (w.drew.alloc (.cells #[.slice sa sn sc, .int .i64 no] 167)) w0.heap.size (.slice a n cap) hs := HH.out.own.below b1
    have hsV : SrcAt (w.drew.alloc (.cells #[.slice sa sn sc, .int .i64 no] 167)) w.heap.size 0 ⟨.slice sa sn sc, ses, no⟩ := src_new w.drew ⟨.slice sa sn sc, ses, no⟩ _
    have hbV : w0.heap.size ≤ (w.drew.alloc (.cells #[.slice sa sn sc, .int .i64 no] 167)).heap.size := Nat.le_trans HB.out b1.size
    clear hce hfz
    try simp only [World.drew_alloc] at b1 hoV hsV hbV
    refine wpAnyH_ready (rs := [7]) (by kernel_rfl) (by simp) ?_
    refine AllReadyH.cons rfl (fun K hK => ?_) AllReadyH.nil
    refine step_append_src rfl 11 rfl (.tmp 7) (.tmp 10) rfl w0.heap.size _ _ hs ⟨.slice sa sn sc, ses, no⟩ rfl rfl hoV hsV rfl HF.out hbV ?_
    intro v2 w2 ho2 hg2 hv2
    obtain ⟨⟨cc, hcc⟩, hfz2, hp2, hop2⟩ := HPU.out _ w2 v2 b1 ho2 hg2 hv2
    obtain ⟨a2, c2, hva, -⟩ := ownH_len ho2
    generalize (hs ++ [(⟨.slice sa sn sc, ses, no⟩ : Src)]).length = n2 at hva
    subst hva
    clear hoV hsV hbV ho2 hg2 hv2 b1
    refine hK.out _ _ trivial (fun hH => ?_)
    clear hK K
    try simp only [Act.put, sA, sZ, sS]
    refine takeH (i := 8) (d := 12) (v := ?_) rfl rfl (by kernel_rfl) (by kernel_rfl) (by kernel_rfl) (fun _ _ _ h => h) (Or.inl ⟨by kernel_rfl, ?_⟩) hH ?_
    rotate_left 1
    · intro w hS; (try dsimp only [EntAt, SrcAt, Nat.zero_add] at hS); go_simp; (try with_reducible rfl)
    try simp only [Act.put, sA, sZ, sS]
    refine wpAnyH_ready (rs := [9]) (by kernel_rfl) (by simp) ?_
    refine AllReadyH.cons rfl (fun K hK => ?_) AllReadyH.nil
    go_simp
    refine hK.out _ _ trivial (fun hH => ?_)
    clear hK K
    try simp only [Act.put, sA, sZ, sS]
    refine wpAnyH_done (by kernel_rfl) ?_ _
    refine NoPanic.normal ?_
    go_end0
    exact ⟨_, rfl, hp2, hop2⟩
theorem ownH_take {w : World} {B g n cap : Nat} {hs : List Src} (h : OwnH w B (.slice (some ⟨g, 0, none⟩) n cap) hs) (m : Nat) (hm : m ≤ hs.length) : OwnH w B (.slice (some ⟨g, 0, none⟩) m cap) (hs.take m) := by
  have hl : (hs.take m).length = m := by rw [List.length_take]; omega
  refine ⟨by rw [HV_length], ?_⟩
  rcases h.2 with ⟨h2, _⟩ | ⟨g', cap', cur, hv, hg, hh, h1, h3, h4, h5⟩
  · cases h2
  · simp only [Value.slice.injEq, Option.some.injEq, Addr.mk.injEq, and_true] at hv
    obtain ⟨rfl, _, rfl⟩ := hv
    refine .inr ⟨g, cap, cur, by rw [hl], hg, hh, by rw [hl]; omega, h3, h4, ?_⟩
    rw [hl]
    have e : HV hs = HV (hs.take m) ++ HV (hs.drop m) := by rw [← HV_append, List.take_append_drop]
    have e2 : (cur.toList.take (hs.length * 2)).take (m * 2) = (HV hs).take (m * 2) := by rw [h5]
    rw [List.take_take, Nat.min_eq_left (by omega)] at e2
    rw [e2, e, List.take_append_of_le_length (by rw [HV_length, hl]; exact Nat.le_refl _), List.take_of_length_le (by rw [HV_length, hl]; exact Nat.le_refl _)]
def PopPost (w0 w : World) (sb : Nat) (v : Value) (hs : List Src) (s : Src) (e : Ending) (w' : World) : Prop :=
  ∃ v', e = .returned (.iface 167 (.agg #[s.v, .int .i64 s.no])) ∧ Hp w0 w' sb v' hs ∧ Hop w v sb w' v'
theorem pop_any (w0 w : World) (sb : Nat) (v : Value) (hs : List Src) (n : Nat) (h : Hp w0 w sb v hs) (hn : hs.length = n + 1) :
    Calls Tryz.prog 182 #[.pointer (some ⟨sb, 0, none⟩)] w fun e w' => PopPost w0 w sb v (hs.take n) (sN hs n) e w' := by
  obtain ⟨g, cap, hv, hlc, hcm⟩ := ownH_shape h.own (by omega)
  rw [hn] at hv hlc
  subst hv
  obtain ⟨k1, k2⟩ := ownH_at h.own n (by omega)
  obtain ⟨sa, sn, sc, hsv⟩ := h.slices _ (sN_mem (show n < hs.length by omega))
  have hce := h.cell
  have HPO : Hid (∀ w1, Below w.heap.size w w1 → w1.cell? ⟨sb, 0, none⟩ = some (.slice (some ⟨g, 0, none⟩) (n + 1) cap) ∧ w1.frozen? ⟨sb, 0, none⟩ = false ∧ Hp w0 (w1.setCell ⟨sb, 0, none⟩ (.slice (some ⟨g, 0, none⟩) n cap)) sb (.slice (some ⟨g, 0, none⟩) n cap) (hs.take n) ∧ Hop w (.slice (some ⟨g, 0, none⟩) (n + 1) cap) sb (w1.setCell ⟨sb, 0, none⟩ (.slice (some ⟨g, 0, none⟩) n cap)) (.slice (some ⟨g, 0, none⟩) n cap)) := fun w1 b1 => by
    have h1 := h.below b1
    have hgs := h.ne g rfl
    refine ⟨h1.cell, box_frozen h1.box, ⟨h1.bel.setCell h.ge _, h.ge, box_set h1.box, ownH_kept (ownH_take h1.own n (by omega)) (fun k hk => heap_setCell_other w1 ⟨sb, 0, none⟩ k _ (fun e => hgs (by have := Option.some.inj hk; simp at this e; omega))), fun k hk => h.ne k hk, fun s hs => h.rd s (List.mem_of_mem_take hs), by rw [List.length_take]; have := h.few; omega⟩, ⟨by have := b1.size; simp; omega, fun k hk hks _ => ?_, fun k hk => .inl hk⟩⟩
    rw [heap_setCell_other w1 ⟨sb, 0, none⟩ k _ (fun e => hks (by simpa using e))]
    exact b1.block k hk
  obtain ⟨s, hs0⟩ : ∃ s, s = sN hs n := ⟨_, rfl⟩
  rw [← hs0] at k1 k2 hsv ⊢
  obtain ⟨no, hno⟩ : ∃ no, no = s.no := ⟨_, rfl⟩
  have HE : Hid (Ending.returned (.iface 167 (.agg #[.slice sa sn sc, .int .i64 no])) = .returned (.iface 167 (.agg #[s.v, .int .i64 s.no]))) := by unfold Hid; rw [hsv, hno]
  rw [hsv] at k1
  rw [← hno] at k2
  generalize hs.take n = hs2 at HPO ⊢
  unfold maxLen at hcm
  have hn20 : n ≤ 20 := by have := h.few; omega
  have hsl := h.lt
  have hne1 : ¬ w.heap.size = sb := by omega
  have hne2 : ¬ sb = w.heap.size := by omega
  obtain ⟨hce1, hfz1, hp1, hop1⟩ := HPO.out _ (below1 w (.cells #[.slice sa sn sc, .int .i64 no] 167))
  obtain ⟨_, _, hp0, hop0⟩ := HPO.out w (Below.refl _ _)
  have HP1 : Hid (_ ∧ _) := ⟨hp0.below (below1 _ (.cells #[.slice sa sn sc, .int .i64 no] 167)), hop0.trans (Hop.below (below1 _ (.cells #[.slice sa sn sc, .int .i64 no] 167)))⟩
  clear hs0 hno hsv h hn HPO hp1 hop1 hp0 hop0
  go_enter Tryz.func182, Tryz.ntmps182
  go_wp2
  go_ret
  exact ⟨_, HE.out, HP1.out.1, HP1.out.2⟩
end Go.Proofs.YtbefmbjlogkmbaaGreat
