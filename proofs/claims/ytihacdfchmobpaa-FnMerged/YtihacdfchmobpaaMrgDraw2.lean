/- The draw of the law of merging. -/
import Derived.Test.YtihacdfchmobpaaDrawAny
import Derived.Test.YtihacdfchmobpaaDrawHelp
import Derived.Test.YtihacdfchmobpaaMrgLL2
namespace Go.Proofs.Ytihacdfchmobpaa
open Go.RowKit
theorem ownP_g {w w' : World} {B g : Nat} {v : Value} {us : List (Value × List Ent)} (h : OwnP w B v us) (hg : w.grownBy w' (some g)) (hB : g < B) : OwnP w' B v us :=
  row_kept h hg (fun k hk e => by have := (World.ownsRow.lt h k hk).1; simp at e; omega)
theorem ownE_nilM (w : World) (B : Nat) : OwnE w B (.slice none 0 0) [] := ⟨rfl, .inl ⟨rfl, rfl⟩⟩
/-- A row of slices and a row of entries are not the same. -/
theorem p_apart {w : World} {B B' : Nat} {o v : Value} {us : List (Value × List Ent)} {es : List Ent} (h : OwnP w B o us) (he : OwnE w B' v es) : ∀ k, v.ownBlock = some k → o.ownBlock ≠ some k := by
  intro k hk e
  rcases h.2 with ⟨h1, _⟩ | ⟨g, cap, cur, hv, _, hg, _⟩
  · rw [h1] at e; cases e
  · rcases he.2 with ⟨h1, _⟩ | ⟨g', cap', cur', hv', _, hg', _⟩
    · rw [h1] at hk; cases hk
    · rw [hv] at e
      rw [hv'] at hk
      have e1 : g = k := Option.some.inj e
      have e2 : g' = k := Option.some.inj hk
      rw [e1] at hg
      rw [e2, hg] at hg'
      simp at hg'
/-- The lists that were drawn so far. -/
def InsD (w : World) (B : Nat) (us : List (Value × List Ent)) : Prop := ∀ p ∈ us, OwnE w B p.1 p.2 ∧ p.2.length ≤ 400 ∧ ∀ x ∈ p.2, Small x
theorem InsD.g {w w' : World} {B g : Nat} {us : List (Value × List Ent)} (h : InsD w B us) (hg : w.grownBy w' (some g)) (hB : g < B) : InsD w' B us := fun p hp => ⟨ownE_g (h p hp).1 hg hB, (h p hp).2⟩
theorem InsD.below {w w' : World} {B : Nat} {us : List (Value × List Ent)} (h : InsD w B us) (hb : Below w.heap.size w w') : InsD w' B us := fun p hp => ⟨(h p hp).1.below hb, (h p hp).2⟩
theorem InsD.grown {w w' : World} {B B' : Nat} {o : Value} {us ts : List (Value × List Ent)} (h : InsD w B us) (ho : OwnP w B' o ts) (hg : w.grownBy w' o.ownBlock) : InsD w' B us := fun p hp =>
  ⟨ownE_block (h p hp).1 (fun k hk => hg.block k (World.ownsRow.lt (h p hp).1 k hk).2 (fun e => p_apart ho (h p hp).1 k hk e.symm)), (h p hp).2⟩
theorem InsD.push {w : World} {B : Nat} {us : List (Value × List Ent)} {u : Value} {es : List Ent} (h : InsD w B us) (hu : OwnE w B u es) (hl : es.length ≤ 400) (hs : ∀ x ∈ es, Small x) : InsD w B (us ++ [(u, es)]) := fun p hp => by
  rcases List.mem_append.1 hp with hp | hp
  · exact h p hp
  · rw [List.mem_singleton.1 hp]; exact ⟨hu, hl, hs⟩
/-- What DrawMerged leaves. -/
def MergedD (w : World) (e : Ending) (w' : World) : Prop :=
  ∃ (u : Value) (us : List (Value × List Ent)), e = .returned u ∧ Pieces w' u us ∧ us.length ≤ 21 ∧ (∀ p ∈ us, p.2.length ≤ 400 ∧ ∀ x ∈ p.2, Small x) ∧ Below w.heap.size w w'
set_option maxHeartbeats 4000000 in
set_option maxRecDepth 100000 in
theorem drawMerged_any (v : Value) (bs : List UInt8) (w : World) (hr : Rd w v bs) (hb : bs.length ≤ 4096) :
    Calls Try.prog 9 #[v] w fun e w' => MergedD w e w' := by
  obtain ⟨i0, hi, hz0, hz1, hz2⟩ := info_parts Try.info26
  go_enter Try.func9, Try.ntmps9
  go_wp2_with fail
  refine (l1New_any v bs w hr hb).mono ?_
  rintro e w1 ⟨g, rfl, hc1⟩
  have hgl := hc1.lt
  have hs1 := hc1.bel.size
  have hp1 := ownP_none w1
  have hcA := hc1.alloc (.cells #[] 26)
  have hszA : w1.heap.size ≤ (w1.alloc (.cells #[] 26)).heap.size := by simp
  clear hc1 hr hb
  go_wp2_with fail
  refine (l1Below_any w _ g 5 hcA (by omega) (by omega)).mono ?_
  rintro e w2 ⟨n0, rfl, hn0, hn1, hc2, hg2⟩
  have ho2 := ownP_g hp1 hg2 hgl
  have hsz2 : w1.heap.size ≤ w2.heap.size := Nat.le_trans hszA hg2.size
  clear hp1 hcA hg2 hszA
  go_wp2
  go_loopw [4, 5, 6] (fun o sq n wr => ∃ (m q : Int) (us : List (Value × List Ent)), n = .int .i64 m ∧ sq = .int .i64 q ∧ 0 ≤ m ∧ m ≤ 5 ∧ 1 ≤ q ∧ q + 12 * m ≤ 61 ∧ (us.length : Int) + m ≤ 5 ∧ OwnP wr w1.heap.size o us ∧ Hid (InsD wr w1.heap.size us) ∧ DCur w wr g ∧ w1.heap.size ≤ wr.heap.size) (fun _ _ n _ => (intOf n).toNat)
  case atStart => exact ⟨n0, 1, [], rfl, rfl, hn0, by omega, by omega, by omega, by simp; omega, ho2, (fun p hp => by cases hp), hc2, hsz2⟩
  case round =>
    obtain ⟨m, q, us, rfl, rfl, hm0, hm5, hq1, hq2, hul, ho, HI, hc, hsz⟩ := hrel
    clear ho2 hc2 hsz2
    by_cases hmp : 0 < m
    · skip
      go_wp2_with fail
      refine (l3DrawFrom_gen w _ g q 6 hc (by omega) (by omega) (by omega)).mono ?_
      rintro e w3 ⟨vL, es, rfl, hoL, hlL, hsL, hc3, hg3⟩
      have ho3 := ownP_g ho hg3 hgl
      have HI3 : Hid (InsD w3 w1.heap.size us) := HI.out.g hg3 hgl
      have hoL2 := hoL.mono hsz
      have HSL : Hid (∀ x ∈ es, Small x) := hsL
      have hsz3 := Nat.le_trans hsz hg3.size
      clear ho HI hc hoL hsL hg3 hsz
      go_wp2_with fail
      refine (l1Once_any w _ g 3 hc3 (by omega) (by omega)).mono ?_
      rintro e w4 ⟨bb, rfl, hc4, hg4⟩
      have ho4 := ownP_g ho3 hg4 hgl
      have HI4 : Hid (InsD w4 w1.heap.size us) := HI3.out.g hg4 hgl
      have hoL4 := ownE_g hoL2 hg4 hgl
      have hsz4 := Nat.le_trans hsz3 hg4.size
      obtain ⟨aL, cL, hvL, -⟩ := id hoL4.rd
      obtain ⟨nL, hnL⟩ : ∃ nL, nL = es.length := ⟨_, rfl⟩
      rw [← hnL] at hvL
      subst hvL
      have HLL : Hid (es.length ≤ 400) := by unfold Hid; omega
      clear ho3 HI3 hc3 hoL2 hsz3 hg4 hnL hlL
      have HAP : Hid (∀ v5 w5, w5.ownsRow w1.heap.size 26 1 v5 (us.length + 1) (us.map (·.1) ++ [.slice aL nL cL]) → (w4.alloc (.cells #[.slice aL nL cL] 26)).grownBy w5 (u4 : Value).ownBlock → OwnP w5 w1.heap.size v5 (us ++ [(.slice aL nL cL, es)]) ∧ InsD w5 w1.heap.size (us ++ [(.slice aL nL cL, es)]) ∧ DCur w w5 g ∧ w1.heap.size ≤ w5.heap.size) := fun v5 w5 h5 hg5 => by
        have b1 := below1 w4 (.cells #[.slice aL nL cL] 26)
        have hoA := ho4.below b1
        refine ⟨ownP_push h5, ((HI4.out.push hoL4 HLL.out HSL.out).below b1).grown hoA hg5, (hc4.alloc _).grow hg5 (fun k hk => by have := (World.ownsRow.lt ho4 k hk).1; omega), ?_⟩
        have := hg5.size
        simp at this
        omega
      cases bb
      all_goals
        go_wp2_with (at_builtin; (refine wpList_append_own _ rfl _ _ 24 rfl w1.heap.size 26 i0 (.slice none 0 0) 1 24 Try.underlying24 hi hz0 hz1 hz2 rfl (by decide) _ _ _ rfl (World.ownsRow.alloc ho4 _) ⟨w4.heap.size, 0, none⟩ 1 1 [.slice aL nL cL] rfl rfl ?c1 ?c2 ?c3 ?c4 ?c5 ?_))
        case c1 => exact one_new_at _ _ _ _ rfl
        case c2 => intro z hz; simp at hz; subst hz; rfl
        case c3 => unfold maxLen; omega
        case c4 => omega
        case c5 => simp; omega
        intro v5 w5 ho5 hg5 _
        obtain ⟨r1, r2, r3, r4⟩ := HAP.out v5 w5 ho5 hg5
        have R2 : Hid (InsD _ _ _) := r2
        clear ho4 hc4 ho5 hg5 HAP HI4 hoL4 r2
        go_wp2
        go_roundw
        case rel => exact ⟨m - 1, _, _, rfl, rfl, by omega, by omega, by omega, by omega, by rw [List.length_append]; simp; omega, r1, R2, r3, r4⟩
        case measure => simp [intOf]; omega
    · skip
      have hm1 : m = 0 := by omega
      subst hm1
      go_wp2_with fail
      refine (l1Once_any w _ g 20 hc (by omega) (by omega)).mono ?_
      rintro e w4 ⟨bb, rfl, hc4, hg4⟩
      have ho4 := ownP_g ho hg4 hgl
      have HI4 : Hid (InsD w4 w1.heap.size us) := HI.out.g hg4 hgl
      have hsz4 := Nat.le_trans hsz hg4.size
      clear ho HI hc hg4 hsz
      cases bb
      · have HE : Hid (MergedD w (.returned u4) w4) := ⟨_, us, rfl, ho4.pieces (fun p hp => (HI4.out p hp).1.rd), by omega, fun p hp => (HI4.out p hp).2, hc4.bel⟩
        clear ho4 HI4 hc4
        go_wp2
        go_ret
        exact HE.out
      · go_wp2_with fail
        refine (l1Below_any w _ g 2 hc4 (by omega) (by omega)).mono ?_
        rintro e w5 ⟨y, rfl, hy0, hy1, hc5, hg5⟩
        have ho5 := ownP_g ho4 hg5 hgl
        have HI5 : Hid (InsD w5 w1.heap.size us) := HI4.out.g hg5 hgl
        have hsz5 := Nat.le_trans hsz4 hg5.size
        clear ho4 HI4 hc4 hg5 hsz4
        by_cases hy : y = 0
        · skip
          subst hy
          go_wp2_with fail
          refine (l3DrawAny_any w _ g hc5).mono ?_
          rintro e w6 ⟨vL, es, rfl, hoL, hlL, hsL, hc6, hg6⟩
          have ho6 := ownP_g ho5 hg6 hgl
          have HI6 : Hid (InsD w6 w1.heap.size us) := HI5.out.g hg6 hgl
          have hoL6 := hoL.mono hsz5
          have hsz6 := Nat.le_trans hsz5 hg6.size
          obtain ⟨aL, cL, hvL, -⟩ := id hoL6.rd
          obtain ⟨nL, hnL⟩ : ∃ nL, nL = es.length := ⟨_, rfl⟩
          rw [← hnL] at hvL
          subst hvL
          have HLL : Hid (es.length ≤ 400 ∧ ∀ x ∈ es, Small x) := ⟨hlL, hsL⟩
          clear ho5 HI5 hc5 hg6 hsz5 hoL hlL hsL hnL
          go_wp2_with (at_builtin; (refine wpList_append_own _ rfl _ _ 24 rfl w1.heap.size 26 i0 (.slice none 0 0) 1 24 Try.underlying24 hi hz0 hz1 hz2 rfl (by decide) _ _ _ rfl (World.ownsRow.alloc ho6 _) ⟨w6.heap.size, 0, none⟩ 1 1 [.slice aL nL cL] rfl rfl ?c1 ?c2 ?c3 ?c4 ?c5 ?_))
          case c1 => exact one_new_at _ _ _ _ rfl
          case c2 => intro z hz; simp at hz; subst hz; rfl
          case c3 => unfold maxLen; omega
          case c4 => omega
          case c5 => simp; omega
          intro v7 w7 ho7 hg7 _
          have b1 := below1 w6 (.cells #[.slice aL nL cL] 26)
          have hi7 := ((HI6.out.push hoL6 HLL.out.1 HLL.out.2).below b1).grown (ho6.below b1) hg7
          have HE : Hid (MergedD w (.returned v7) w7) := by
            refine ⟨_, us ++ [(.slice aL nL cL, es)], rfl, OwnP.pieces (ownP_push ho7) (fun p hp => (hi7 p hp).1.rd), by rw [List.length_append]; simp; omega, fun p hp => (hi7 p hp).2, ?_⟩
            exact ((hc6.alloc _).grow hg7 (fun k hk => by have := (World.ownsRow.lt ho6 k hk).1; omega)).bel
          clear ho6 HI6 hc6 hoL6 ho7 hg7 hi7 b1
          go_wp2
          go_ret
          exact HE.out
        · skip
          have hy2 : y = 1 := by omega
          subst hy2
          go_wp2_with fail
          refine (l1Below_any w _ g 2 hc5 (by omega) (by omega)).mono ?_
          rintro e w6 ⟨z, rfl, hz0', hz1', hc6, hg6⟩
          obtain ⟨zn, rfl⟩ := Int.eq_ofNat_of_zero_le hz0'
          have hsz6 := Nat.le_trans hsz5 hg6.size
          clear ho5 HI5 hc5 hg6 hsz5
          go_wp2_with (at_make; (refine wpList_make_full _ rfl _ _ 24 rfl w1.heap.size 26 i0 (.slice none 0 0) 1 Try.underlying24 hi hz0 hz1 .i64 .i64 (20 + (zn : Int)) (20 + (zn : Int)) (20 + zn) rfl rfl (by omega) (by omega) ?e1 ?e2 ?e3 ?_))
          case e1 => rw [hz2]; omega
          case e2 => unfold maxLen; omega
          case e3 => omega
          intro w7 ho7 hg7
          rw [made_PV] at ho7
          have hop : OwnP w7 w1.heap.size (.slice (some ⟨w6.heap.size, 0, none⟩) (20 + zn) (20 + zn)) (List.replicate (20 + zn) (.slice none 0 0, [])) := by
            unfold OwnP
            rw [List.length_replicate, List.map_replicate]
            exact ho7
          have HE : Hid (MergedD w (.returned (.slice (some ⟨w6.heap.size, 0, none⟩) (20 + zn) (20 + zn))) w7) := by
            refine ⟨_, _, rfl, hop.pieces (fun p hp => by rw [List.eq_of_mem_replicate hp]; exact rdE_nil _), by rw [List.length_replicate]; omega, fun p hp => by rw [List.eq_of_mem_replicate hp]; exact ⟨Nat.zero_le _, (fun x hx => by cases hx)⟩, (hc6.grow hg7 (fun k hk => by cases hk)).bel⟩
          clear hc6 hop ho7 hg7
          go_wp2
          go_ret
          exact HE.out
end Go.Proofs.Ytihacdfchmobpaa
