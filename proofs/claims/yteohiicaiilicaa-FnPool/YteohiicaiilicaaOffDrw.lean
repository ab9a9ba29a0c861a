/- The draws of pools: what is drawn is a row of at most 51 Offers with short texts, right or not. -/
-- UNF Gen
import Derived.Test.YteohiicaiilicaaOffNxt
import Derived.Test.YteohiicaiilicaaOffSpc
import Derived.Test.YteohiicaiilicaaOffPlm
import Derived.Test.YteohiicaiilicaaBend
import Derived.Deep.RegionHeld3
namespace Go.Proofs.Yteohiicaiilicaa
open Go.RowKit
theorem dcur_belowO {w0 w w' : World} {g : Nat} (h : DCur w0 w g) (hb : Below w.heap.size w w') : DCur w0 w' g := by
  have hl := h.lt
  obtain ⟨v, bs, i, x, h1, h2, h3, h4, h5, h6⟩ := h
  exact ⟨v, bs, i, x, h1, h2, h3, by rw [hb.block g hl]; exact h4, h5.trans (hb.mono h5.size), h6⟩
theorem gr_belowO {a w w' : World} {row : Option Nat} (h : a.grownBy w row) (hb : Below w.heap.size w w') : a.grownBy w' row :=
  ⟨hb.os.trans h.os, hb.tape.trans h.tape, hb.output.trans h.output, Nat.le_trans h.size hb.size, fun k hk hr => (hb.block k (Nat.lt_of_lt_of_le hk h.size)).trans (h.block k hk hr)⟩
theorem keepO_below {w0 w W W' : World} {g : Nat} (h : Keep w0 w g W) (hb : Below W.heap.size W W') : Keep w0 w g W' := ⟨dcur_belowO h.1 hb, gr_belowO h.2.1 hb, h.2.2⟩
theorem keepO_set {w0 w W : World} {g b j : Nat} {u : Value} (h : Keep w0 w g W) (hb : w.heap.size ≤ b) : Keep w0 w g (W.setCell ⟨b, j, none⟩ u) := h.step (set_grown u) (fun k hk => by have := Option.some.inj hk; omega)
theorem keepO_start {w0 w : World} {g : Nat} (h : DCur w0 w g) : Keep w0 w g w := ⟨h, gr_refl _ _, h.lt⟩
theorem ownO_g {w w' : World} {B g : Nat} {v : Value} {es : List Off} (h : OwnO w B v es) (hg : w.grownBy w' (some g)) (hB : g < B) : OwnO w' B v es :=
  ownO_kept h (fun k hk => hg.block k (ownO_lt h k hk) (fun e => by have := (World.ownsRow.lt h k hk).1; have := Option.some.inj e; omega))
theorem offAt_g {w w' : World} {b g j : Nat} {e : Off} (h : OffAt w b j e) (hg : w.grownBy w' (some g)) (hB : b ≠ g) : OffAt w' b j e := h.of_block (hg.block b h.lt (fun e => hB (Option.some.inj e)))
theorem blk_gO {W W' : World} {q g : Nat} {o : Obj} (h : W.heap[q]? = some o) (hg : W.grownBy W' (some g)) (hn : q ≠ g) : W'.heap[q]? = some o := (hg.block q (Array.getElem?_eq_some_iff.1 h).1 (fun e => hn (by simpa using e))).trans h
theorem row_atO {W : World} {q : Nat} {zs : List Int} (h : W.heap[q]? = some (.cells (zs.map (fun z => Value.int .i64 z)).toArray 2 (0, 0))) (k : Nat) (hk : k < zs.length) : W.cell? ⟨q, k, none⟩ = some (.int .i64 (zs.getD k 0)) := by
  simp [World.cell?, h, List.getD, hk]
/-- What the draw of a pool leaves. -/
def OffsD (w0 w : World) (g : Nat) (e : Ending) (w' : World) : Prop :=
  ∃ u es, e = .returned u ∧ OwnO w' w.heap.size u es ∧ es.length ≤ 51 ∧ (∀ x ∈ es, x.text.size ≤ 61) ∧ Keep w0 w g w'
theorem set_all {es : List Off} {j : Nat} {x : Off} (h : ∀ e ∈ es, e.text.size ≤ 61) (hx : x.text.size ≤ 61) : ∀ e ∈ es.set j x, e.text.size ≤ 61 := fun e he => by
  rcases List.mem_or_eq_of_mem_set he with h1 | h1
  · exact h e h1
  · rw [h1]; exact hx
theorem offR_all {es : List Off} {o : Off} (h : ∀ e ∈ es, e.text.size ≤ 61) (ho : o.text.size ≤ 61) : ∀ e ∈ offR es o, e.text.size ≤ 61 := by
  unfold offR
  split
  · intro e he
    have := offL_all (p := fun e => decide (e.text.size ≤ 61)) (fun e he => by simpa using h e he) (by simpa using ho) e he
    simpa using this
  · intro e he; cases he
theorem offR_short (es : List Off) (o : Off) : (offR es o).length ≤ es.length + 1 := by
  unfold offR
  split
  · rw [offL_len]; omega
  · simp
set_option maxHeartbeats 8000000 in
set_option maxRecDepth 100000 in
theorem l14Draw_any (w0 w : World) (g : Nat) (h : DCur w0 w g) :
    Calls Try.prog 34 #[.pointer (some ⟨g, 0, none⟩)] w fun e w' => OffsD w0 w g e w' := by
  obtain ⟨i0, hi, hz0, hz1, hz2⟩ := info_parts Try.infoO26
  obtain ⟨j0, hj, hy0, hy1, hy2⟩ := info_parts Try.info5
  have K := keepO_below (keepO_start h) (below1 w (.cells #[] 26))
  have ho := ownO_none w
  have hgl := h.lt
  clear h
  go_enter Try.func34, Try.ntmps34
  go_wp2_with fail
  refine (l1Below_any w0 _ g 12 K.1 (by omega) (by omega)).mono ?_
  rintro e V1 ⟨x, rfl, h0, h1, hc, hg⟩
  replace K := K.own hc hg
  replace ho := ownO_g ho hg hgl
  clear hc hg
  obtain ⟨m0, rfl⟩ := Int.eq_ofNat_of_zero_le h0
  have hm0 : m0 ≤ 11 := by omega
  clear h0 h1
  go_wp2
  go_loopw [3, 4] (fun lv nv wr => ∃ (m : Nat) (es : List Off), nv = .int .i64 (m : Int) ∧ m ≤ 11 ∧ Hid (es.length + m ≤ 11) ∧ OwnO wr w.heap.size lv es ∧ Hid (∀ x ∈ es, x.text.size ≤ 61) ∧ Keep w0 w g wr) (fun _ nv _ => (intOf nv).toNat)
  case atStart => exact ⟨m0, [], rfl, hm0, (by show 0 + m0 ≤ 11; omega), ho, (fun x hx => by cases hx), K⟩
  case round =>
    clear K ho hm0
    obtain ⟨m, es, rfl, hm, HL, ho, HT, K⟩ := hrel
    by_cases hm0 : 0 < m
    · go_wp2_with fail
      refine (l1Below_any w0 _ g 6 K.1 (by omega) (by omega)).mono ?_
      rintro e V1 ⟨f, rfl, h0f, h1f, hc, hg⟩
      replace K := K.own hc hg
      replace ho := ownO_g ho hg hgl
      clear hc hg
      go_wp2_with fail
      refine (l1DrawText_any w0 _ g K.1).mono ?_
      rintro e V2 ⟨s, rfl, hs, hc, hg⟩
      replace K := K.own hc hg
      replace ho := ownO_g ho hg hgl
      clear hc hg
      go_wp2_with fail
      refine (specOffered_any _ es ⟨f, s⟩ _ ho.rd (fun e he => by have := HT.out e he; unfold maxLen; omega) (by show s.size ≤ maxLen; unfold maxLen; omega)).mono ?_
      rintro e V3 ⟨u, rfl, ho3, hb3⟩
      have K3 := keepO_below K hb3
      have R1 := ho3.mono K.2.1.size
      have R2 : Hid (∀ x ∈ offR es ⟨f, s⟩, x.text.size ≤ 61) := offR_all HT.out (by show s.size ≤ 61; omega)
      have R3 : Hid ((offR es ⟨f, s⟩).length + (m - 1) ≤ 11) := by have := offR_short es ⟨f, s⟩; have := HL.out; unfold Hid; omega
      generalize offO es ⟨f, s⟩ = okb
      generalize offR es ⟨f, s⟩ = es3 at R1 R2 R3
      clear ho ho3 hb3 K
      go_wp2
      go_roundw
      case rel => exact ⟨m - 1, _, by go_num, by omega, R3, R1, R2, K3⟩
      case measure => simp [intOf]; omega
    · have hm00 : m = 0 := by omega
      subst hm00
      clear hm0
      obtain ⟨la, ln, lc, rfl⟩ := rdO_slice ho.rd
      obtain ⟨hln, hlc, hlm, hlg⟩ := ownO_shape ho
      unfold maxLen at hlm
      have hn11 : ln ≤ 11 := by have := HL.out; omega
      have HLN : Hid (ln = es.length) := hln
      clear hln HL
      go_wp2_with fail
      refine (l1Once_any w0 _ g 12 K.1 (by omega) (by omega)).mono ?_
      rintro e V1 ⟨bo, rfl, hc, hg⟩
      replace K := K.own hc hg
      replace ho := ownO_g ho hg hgl
      clear hc hg
      have HE : Hid (OffsD w0 w g (.returned (.slice la ln lc)) V1) := ⟨_, es, rfl, ho, by have := HLN.out; omega, HT.out, K⟩
      cases bo with
      | false =>
        clear ho K
        go_wp2
        go_ret
        exact HE.out
      | true =>
        by_cases hl0 : ln = 0
        · subst hl0
          clear ho K
          go_wp2
          go_ret
          exact HE.out
        clear HE
        obtain ⟨gg, rfl⟩ := hlg (by omega)
        have hgg := (World.ownsRow.lt ho gg rfl).1
        have hlp : (0 : Int) < (ln : Int) := by omega
        go_wp2_with fail
        refine (l1Below_any w0 _ g (ln : Int) K.1 (by omega) (by omega)).mono ?_
        rintro e V2 ⟨x, rfl, h0, h1, hc, hg⟩
        replace K := K.own hc hg
        replace ho := ownO_g ho hg hgl
        clear hc hg
        obtain ⟨j, rfl⟩ := Int.eq_ofNat_of_zero_le h0
        have hjl : j < ln := by omega
        go_wp2_with fail
        refine (l1Below_any w0 _ g 3 K.1 (by omega) (by omega)).mono ?_
        rintro e V3 ⟨y, rfl, h0y, h1y, hc, hg⟩
        replace K := K.own hc hg
        replace ho := ownO_g ho hg hgl
        clear hc hg
        have hy3 : y = 0 ∨ y = 1 ∨ y = 2 := by omega
        clear h0y h1y
        rcases hy3 with rfl | rfl | rfl
        · have hgV : V3.heap.size ≠ g := by have := K.1.lt; omega
          have hqg : gg ≠ V3.heap.size := by have := (World.ownsRow.lt ho gg rfl).2; omega
          have hrw := alloc_at V3 (.cells #[.int .i64 (-1), .int .i64 9, .int .i64 1000000000, .int .i64 1000000001] 2)
          replace K := keepO_below K (below1 V3 (.cells #[.int .i64 (-1), .int .i64 9, .int .i64 1000000000, .int .i64 1000000001] 2))
          replace ho := ho.below (below1 V3 (.cells #[.int .i64 (-1), .int .i64 9, .int .i64 1000000000, .int .i64 1000000001] 2))
          go_wp2_with fail
          refine (l1Below_any w0 _ g 4 K.1 (by omega) (by omega)).mono ?_
          rintro e V4 ⟨t, rfl, h0t, h1t, hc, hg⟩
          replace K := K.own hc hg
          replace ho := ownO_g ho hg hgl
          replace hrw := blk_gO hrw hg hgV
          clear hc hg
          generalize V3.heap.size = q at hrw hqg ⊢
          obtain ⟨t, rfl⟩ := Int.eq_ofNat_of_zero_le h0t
          have ht4 : t < 4 := by omega
          have hcq := row_atO (zs := [-1, 9, 1000000000, 1000000001]) hrw t ht4
          generalize List.getD [-1, 9, 1000000000, 1000000001] t 0 = z at hcq
          have hos := ho
          unfold OwnO at hos
          rw [← HLN.out] at hos
          have d0 := (ownO_cell hos HLN.out j hjl).1
          have f0 := World.ownsRow.frozenAt hos (j * 2)
          have hst := ownO_store hos (k := j) (j := 0) (by have := HLN.out; omega) (by omega) (u := .int .i64 z) (e' := { nthO es j with fee := z }) rfl
          have HE : Hid (OffsD w0 w g (.returned (.slice (some ⟨gg, 0, none⟩) ln lc)) (V4.setCell ⟨gg, j * 2, none⟩ (.int .i64 z))) := ⟨_, es.set j { nthO es j with fee := z }, rfl, by
            unfold OwnO
            rw [List.length_set, ← HLN.out]
            exact hst, by rw [List.length_set, ← HLN.out]; omega, set_all HT.out (HT.out (nthO es j) (by rw [nthO_eq (by have := HLN.out; omega)]; exact List.getElem_mem _)), keepO_set K hgg⟩
          generalize nthO es j = cj at d0
          clear ho hos hst K hrw h0t h1t
          go_wp2
          go_ret
          exact HE.out
        · go_wp2_with fail
          refine (l1Below_any w0 _ g 2 K.1 (by omega) (by omega)).mono ?_
          rintro e V4 ⟨t, rfl, h0t, h1t, hc, hg⟩
          replace K := K.own hc hg
          replace ho := ownO_g ho hg hgl
          clear hc hg
          obtain ⟨t, rfl⟩ := Int.eq_ofNat_of_zero_le h0t
          obtain ⟨n2, hn2⟩ : ∃ n2, n2 = 60 + t := ⟨_, rfl⟩
          have e1 : 60 + (t : Int) = (n2 : Int) := by omega
          have e2 : IntKind.i64.wrap (n2 : Int) = (n2 : Int) := by rw [IntKind.wrap_i64]; omega
          have hn61 : n2 ≤ 61 := by omega
          have hsz := K.2.1.size
          clear hn2 h0t h1t
          go_wp2_with (at_make; (refine wpList_make_full _ rfl _ _ 22 rfl w.heap.size 5 j0 _ 1 Try.underlying22 hj hy0 hy1 .i64 .i64 (n2 : Int) (n2 : Int) n2 rfl rfl rfl rfl ?c1 ?c2 ?c3 ?_))
          case c1 => rw [hy2]; omega
          case c2 => unfold maxLen; omega
          case c3 => omega
          intro V5 ho5 hg5
          have hb5 : Below V4.heap.size V4 V5 := (Below.refl _ _).grown hg5 (Nat.le_refl _) (fun k hk => by cases hk)
          replace K := keepO_below K hb5
          replace ho := ho.below hb5
          have ho6 : Own V5 w.heap.size (.slice (some ⟨V4.heap.size, 0, none⟩) n2 n2) (List.replicate n2 0) := by
            unfold Own
            rw [List.length_replicate, ← madeB, ← Nat.mul_one n2]
            simpa [Value.cells] using ho5
          have hcv := conv_own ho6
          have hsS : (ByteArray.mk (List.replicate n2 (0 : UInt8)).toArray).size ≤ 61 := by show (List.replicate n2 (0 : UInt8)).toArray.size ≤ 61; simp; omega
          generalize ByteArray.mk (List.replicate n2 (0 : UInt8)).toArray = sV at hcv hsS
          clear ho5 ho6 hg5 hb5
          have hos := ho
          unfold OwnO at hos
          rw [← HLN.out] at hos
          have d1 := (ownO_cell hos HLN.out j hjl).2
          have f1 := World.ownsRow.frozenAt hos (j * 2 + 1)
          have hst := ownO_store hos (k := j) (j := 1) (by have := HLN.out; omega) (by omega) (u := .string sV) (e' := { nthO es j with text := sV }) rfl
          have HE : Hid (OffsD w0 w g (.returned (.slice (some ⟨gg, 0, none⟩) ln lc)) (V5.setCell ⟨gg, j * 2 + 1, none⟩ (.string sV))) := ⟨_, es.set j { nthO es j with text := sV }, rfl, by
            unfold OwnO
            rw [List.length_set, ← HLN.out]
            exact hst, by rw [List.length_set, ← HLN.out]; omega, set_all HT.out hsS, keepO_set K hgg⟩
          generalize nthO es j = cj at d1
          clear ho hos hst K
          go_wp2
          go_ret
          exact HE.out
        · go_wp2_with fail
          refine (l1Below_any w0 _ g 2 K.1 (by omega) (by omega)).mono ?_
          rintro e V4 ⟨t, rfl, h0t, h1t, hc, hg⟩
          replace K := K.own hc hg
          clear hc hg ho
          obtain ⟨t, rfl⟩ := Int.eq_ofNat_of_zero_le h0t
          obtain ⟨n2, hn2⟩ : ∃ n2, n2 = 50 + t := ⟨_, rfl⟩
          have e1 : 50 + (t : Int) = (n2 : Int) := by omega
          have e2 : IntKind.i64.wrap (n2 : Int) = (n2 : Int) := by rw [IntKind.wrap_i64]; omega
          have hn51 : n2 ≤ 51 := by omega
          have hsz := K.2.1.size
          clear hn2 h0t h1t
          go_wp2_with (at_make; (refine wpList_make_full _ rfl _ _ 24 rfl w.heap.size 26 i0 _ 2 Try.underlying24 hi hz0 hz1 .i64 .i64 (n2 : Int) (n2 : Int) n2 rfl rfl rfl rfl ?c1 ?c2 ?c3 ?_))
          case c1 => rw [hz2]; omega
          case c2 => unfold maxLen; omega
          case c3 => omega
          intro V5 ho5 hg5
          rw [made_OV] at ho5
          have hb5 : Below V4.heap.size V4 V5 := (Below.refl _ _).grown hg5 (Nat.le_refl _) (fun k hk => by cases hk)
          have HE : Hid (OffsD w0 w g (.returned (.slice (some ⟨V4.heap.size, 0, none⟩) n2 n2)) V5) := ⟨_, List.replicate n2 zeroO, rfl, by
            unfold OwnO
            rw [List.length_replicate]
            exact ho5, by rw [List.length_replicate]; exact hn51, fun x hx => by rw [(List.mem_replicate.1 hx).2]; exact Nat.zero_le _, keepO_below K hb5⟩
          clear ho5 hg5 hb5 K
          go_wp2
          go_ret
          exact HE.out
/-- What the draws of a pool alone leave. -/
def PoolD (w : World) (e : Ending) (w' : World) : Prop := ∃ u es, e = .returned u ∧ OwnO w' w.heap.size u es ∧ es.length ≤ 51 ∧ (∀ x ∈ es, x.text.size ≤ 61) ∧ Below w.heap.size w w'
set_option maxHeartbeats 4000000 in
set_option maxRecDepth 100000 in
theorem drawPoolOk_any (v : Value) (bs : List UInt8) (w : World) (hr : Rd w v bs) (hb : bs.length ≤ 4096) :
    Calls Try.prog 41 #[v] w fun e w' => PoolD w e w' := by
  go_enter Try.func41, Try.ntmps41
  go_wp2_with fail
  refine (l1New_any v bs _ hr hb).mono ?_
  rintro e w1 ⟨g, rfl, hc⟩
  go_wp2_with fail
  refine (l14Draw_any w _ g hc).mono ?_
  rintro e w2 ⟨u, es, rfl, ho, hl, ht, K⟩
  have HE : Hid (PoolD w (.returned u) w2) := ⟨u, es, rfl, ho.mono hc.bel.size, hl, ht, K.1.bel⟩
  clear ho K hc
  go_wp2
  go_ret
  exact HE.out
set_option maxHeartbeats 4000000 in
set_option maxRecDepth 100000 in
theorem drawNext_any (v : Value) (bs : List UInt8) (w : World) (hr : Rd w v bs) (hb : bs.length ≤ 4096) :
    Calls Try.prog 11 #[v] w fun e w' => PoolD w e w' := by
  go_enter Try.func11, Try.ntmps11
  go_wp2_with fail
  refine (drawPoolOk_any v bs _ hr hb).mono ?_
  rintro e w2 ⟨u, es, rfl, ho, hl, ht, hb2⟩
  have HE : Hid (PoolD w (.returned u) w2) := ⟨u, es, rfl, ho, hl, ht, hb2⟩
  clear ho hb2
  go_wp2
  go_ret
  exact HE.out
/-- What the draw of a pool and an Offer leaves. -/
def OffD (w : World) (e : Ending) (w' : World) : Prop := ∃ (u : Value) (es : List Off) (o : Off), e = .returned (.tuple #[u, .agg #[.int .i64 o.fee, .string o.text]]) ∧ OwnO w' w.heap.size u es ∧ es.length ≤ 51 ∧ (∀ x ∈ es, x.text.size ≤ 61) ∧ o.text.size ≤ 61 ∧ Below w.heap.size w w'
theorem offD_end {w V : World} {N M : Nat} {u : Value} {es : List Off} {o : Off} (hN : N = w.heap.size) (hM : N < M) (ho : OwnO V M u es) (hl : es.length ≤ 51) (ht : ∀ x ∈ es, x.text.size ≤ 61) (hs : o.text.size ≤ 61) (hb : Below w.heap.size w V) : OffD w (.returned (.tuple #[u, .agg #[.int .i64 o.fee, .string o.text]])) ((V.setCell ⟨N, 0, none⟩ (.int .i64 o.fee)).setCell ⟨N, 1, none⟩ (.string o.text)) := by
  have hk : OwnO ((V.setCell ⟨N, 0, none⟩ (.int .i64 o.fee)).setCell ⟨N, 1, none⟩ (.string o.text)) M u es := ownO_kept ho (fun k hk' => by
    have := (World.ownsRow.lt ho k hk').1
    exact (heap_setCell_other _ _ _ _ (by simp; omega)).trans (heap_setCell_other _ _ _ _ (by simp; omega)))
  exact ⟨u, es, o, rfl, hk.mono (by omega), hl, ht, hs, (hb.setCell (by show _ ≤ N; omega) _).setCell (by show _ ≤ N; omega) _⟩
theorem OffD.drew {w W : World} {e : Ending} (h : OffD w e W) : OffD w e W.drew := by
  obtain ⟨u, es, o, h1, h2, h3, h4, h5, h6⟩ := h
  exact ⟨u, es, o, h1, h2, h3, h4, h5, h6.drew⟩
set_option maxHeartbeats 8000000 in
set_option maxRecDepth 100000 in
theorem drawOffered_any (v : Value) (bs : List UInt8) (w : World) (hr : Rd w v bs) (hb : bs.length ≤ 4096) :
    Calls Try.prog 9 #[v] w fun e w' => OffD w e w' := by
  have b0 := below1 w (.cells #[.int .i64 0, .string ⟨#[]⟩] 26)
  have x0 := alloc_at w (.cells #[.int .i64 0, .string ⟨#[]⟩] 26)
  have hr0 := hr.below b0
  have hN0 : w.heap.size < (w.alloc (.cells #[.int .i64 0, .string ⟨#[]⟩] 26)).heap.size := by simp
  go_enter Try.func9, Try.ntmps9
  go_wp2_with fail
  generalize w.alloc (.cells #[.int .i64 0, .string ⟨#[]⟩] 26) = W0 at b0 x0 hr0 hN0 ⊢
  refine (l1New_any v bs _ hr0 hb).mono ?_
  rintro e w1 ⟨g, rfl, hc⟩
  have hgg := hc.ge
  have hW1 := hc.bel.size
  go_wp2_with fail
  refine (l14Draw_any W0 _ g hc).mono ?_
  rintro e w2 ⟨u, es, rfl, ho, hl, ht, K⟩
  have hdc := K.1
  have hw12 := K.2.1.size
  have hgl := K.2.2
  have HT : Hid (∀ x ∈ es, x.text.size ≤ 61) := ht
  clear K hc hr0 hr ht
  go_wp2_with fail
  refine (l1Below_any W0 _ g 8 hdc (by omega) (by omega)).mono ?_
  rintro e w3 ⟨f, rfl, h0f, h1f, hc, hg⟩
  replace ho := ownO_g ho hg hgl
  have hs3 := hg.size
  clear hg hdc
  go_wp2_with fail
  refine (l1DrawText_any W0 _ g hc).mono ?_
  rintro e w4 ⟨s, rfl, hs, hc4, hg⟩
  replace ho := ownO_g ho hg hgl
  have hs4 := hg.size
  clear hg hc
  have hux : ∀ k, u.ownBlock = some k → k ≠ w4.heap.size := fun k hk => by have := ownO_lt ho k hk; omega
  have hy := offAt_new w4 ⟨f, s⟩ 26
  have hfb := (box2O (alloc_at w4 (.cells #[.int .i64 f, .string s] 26)))
  replace ho := ho.below (below1 w4 (.cells #[.int .i64 f, .string s] 26))
  replace hc4 := dcur_belowO hc4 (below1 w4 (.cells #[.int .i64 f, .string s] 26))
  have hxb := alloc_at w4 (.cells #[.int .i64 f, .string s] 26)
  clear hy hfb
  go_wp2_with fail
  generalize w4.alloc (.cells #[.int .i64 f, .string s] 26) = V4 at ho hc4 hxb ⊢
  have hbN : w4.heap.size ≠ g := by omega
  have hgx : g < w4.heap.size := by omega
  have hbW : W0.heap.size ≤ w4.heap.size := by omega
  have hb1 : w4.heap.size ≠ w.heap.size := by omega
  generalize w4.heap.size = xb at hxb hbN hbW hb1 hgx hux ⊢
  refine (l1Once_any W0 _ g 12 hc4 (by omega) (by omega)).mono ?_
  rintro e V5 ⟨bo, rfl, hc, hg⟩
  replace ho := ownO_g ho hg hgl
  replace hxb := blk_gO hxb hg hbN
  clear hg hc4
  have hM : w.heap.size < w1.heap.size := by omega
  have HEND : Hid (∀ (z : Int) (V : World), OwnO V w1.heap.size u es → DCur W0 V g → V.heap[xb]? = some (.cells #[.int .i64 z, .string s] 26 (0, 0)) → (V.heap[w.heap.size]? = some (.cells #[.int .i64 0, .string ⟨#[]⟩] 26 (0, 0)) ∧ OffD w (.returned (.tuple #[u, .agg #[.int .i64 z, .string s]])) ((V.setCell ⟨w.heap.size, 0, none⟩ (.int .i64 z)).setCell ⟨w.heap.size, 1, none⟩ (.string s)).drew)) := fun z V h1 h2 h3 => ⟨(h2.bel.block _ hN0).trans x0, (offD_end (o := ⟨z, s⟩) (V := V) rfl hM h1 hl HT.out (by show s.size ≤ 61; omega) (b0.trans (h2.bel.mono b0.size))).drew⟩
  cases bo with
  | false =>
    go_wp2_with fail
    obtain ⟨hx, he⟩ := HEND.out f V5 ho hc hxb
    have HE : Hid (OffD w (.returned (.tuple #[u, .agg #[.int .i64 f, .string s]])) ((V5.setCell ⟨w.heap.size, 0, none⟩ (.int .i64 f)).setCell ⟨w.heap.size, 1, none⟩ (.string s)).drew) := he
    obtain ⟨a0, a1, -, -⟩ := box2O hxb
    obtain ⟨z0, z1, g0, g1⟩ := box2O hx
    have k0 : ((V5.setCell ⟨w.heap.size, 0, none⟩ (.int .i64 f)).setCell ⟨w.heap.size, 1, none⟩ (.string s)).drew.cell? ⟨w.heap.size, 0, none⟩ = some (.int .i64 f) := (box2O (put2O hx)).1
    have k1 : ((V5.setCell ⟨w.heap.size, 0, none⟩ (.int .i64 f)).setCell ⟨w.heap.size, 1, none⟩ (.string s)).drew.cell? ⟨w.heap.size, 1, none⟩ = some (.string s) := (box2O (put2O hx)).2.1
    clear ho hc hxb hx he
    refine wp_region_noPanic ?_
    refine wp_region_held_drew (S := fun W => W.cell? ⟨xb, 0, none⟩ = some (.int .i64 f) ∧ W.cell? ⟨xb, 1, none⟩ = some (.string s)) (by kernel_rfl) ⟨a0, a1⟩ (fun hH => ?_)
    refine tkG 0 24 hH ?_
    try simp only [Act.put, List.setIfInBounds_toArray, List.set_cons_zero, List.set_cons_succ]
    refine tkG 1 25 hH ?_
    try simp only [Act.put, List.setIfInBounds_toArray, List.set_cons_zero, List.set_cons_succ]
    refine tkG 2 2 hH ?_
    try simp only [Act.put, List.setIfInBounds_toArray, List.set_cons_zero, List.set_cons_succ]
    refine wpAnyH_ready (rs := [3]) (by kernel_rfl) (by simp) ?_
    refine AllReadyH.cons rfl (fun K hK => ?_) AllReadyH.nil
    go_simp
    refine hK.out _ _ ⟨cell_put2 hH.1 hb1, cell_put2 hH.2 hb1⟩ (fun hB => ?_)
    clear hK K
    try simp only [Act.put, List.setIfInBounds_toArray, List.set_cons_zero, List.set_cons_succ]
    refine wpAnyH_done (by kernel_rfl) ?_ _
    refine NoPanic.normal ?_
    clear hH hB
    go_wp2
    exact bodyPost_ret (v := .tuple #[u, .agg #[.int .i64 f, .string s]]) (by simp [results, Try.results9, go_sem, k0, k1]) rfl HE.out
  | true =>
    have hqV : V5.heap.size ≠ g := by have := hc.lt; omega
    have hqx : V5.heap.size ≠ xb := by have := (Array.getElem?_eq_some_iff.1 hxb).1; omega
    have hrw := alloc_at V5 (.cells #[.int .i64 (-1), .int .i64 1000000000, .int .i64 1000000001] 2)
    replace ho := ho.below (below1 V5 (.cells #[.int .i64 (-1), .int .i64 1000000000, .int .i64 1000000001] 2))
    replace hxb := ((below1 V5 (.cells #[.int .i64 (-1), .int .i64 1000000000, .int .i64 1000000001] 2)).block _ (Array.getElem?_eq_some_iff.1 hxb).1).trans hxb
    replace hc := dcur_belowO hc (below1 V5 (.cells #[.int .i64 (-1), .int .i64 1000000000, .int .i64 1000000001] 2))
    go_wp2_with fail
    refine (l1Below_any W0 _ g 3 hc (by omega) (by omega)).mono ?_
    rintro e V6 ⟨t, rfl, h0t, h1t, hc6, hg⟩
    replace ho := ownO_g ho hg hgl
    replace hxb := blk_gO hxb hg hbN
    replace hrw := blk_gO hrw hg hqV
    clear hg hc
    generalize V5.heap.size = q at hrw hqx ⊢
    obtain ⟨t, rfl⟩ := Int.eq_ofNat_of_zero_le h0t
    have ht3 : t < 3 := by omega
    have hcq := row_atO (zs := [-1, 1000000000, 1000000001]) hrw t ht3
    generalize List.getD [-1, 1000000000, 1000000001] t 0 = z at hcq
    obtain ⟨a0, a1, g0, g1⟩ := box2O hxb
    have ho7 : OwnO (V6.setCell ⟨xb, 0, none⟩ (.int .i64 z)) w1.heap.size u es := ownO_kept ho (fun k hk' => heap_setCell_other _ _ _ _ (by
      intro e
      have e : k = xb := e
      subst e
      exact hux k hk' rfl))
    have hc7 : DCur W0 (V6.setCell ⟨xb, 0, none⟩ (.int .i64 z)) g := hc6.grow (set_grown _) (fun k hk => by have := Option.some.inj hk; omega)
    have hxb7 : (V6.setCell ⟨xb, 0, none⟩ (.int .i64 z)).heap[xb]? = some (.cells #[.int .i64 z, .string s] 26 (0, 0)) := by rw [heap_setCell_same V6 xb 0 _ _ _ hxb]; rfl
    clear ho hc6 hxb hrw
    go_wp2_with fail
    generalize V6.setCell ⟨xb, 0, none⟩ (.int .i64 z) = V7 at ho7 hc7 hxb7 ⊢
    obtain ⟨hx, he⟩ := HEND.out z V7 ho7 hc7 hxb7
    have HE : Hid (OffD w (.returned (.tuple #[u, .agg #[.int .i64 z, .string s]])) ((V7.setCell ⟨w.heap.size, 0, none⟩ (.int .i64 z)).setCell ⟨w.heap.size, 1, none⟩ (.string s)).drew) := he
    obtain ⟨a0, a1, -, -⟩ := box2O hxb7
    obtain ⟨z0, z1, g0, g1⟩ := box2O hx
    have k0 : ((V7.setCell ⟨w.heap.size, 0, none⟩ (.int .i64 z)).setCell ⟨w.heap.size, 1, none⟩ (.string s)).drew.cell? ⟨w.heap.size, 0, none⟩ = some (.int .i64 z) := (box2O (put2O hx)).1
    have k1 : ((V7.setCell ⟨w.heap.size, 0, none⟩ (.int .i64 z)).setCell ⟨w.heap.size, 1, none⟩ (.string s)).drew.cell? ⟨w.heap.size, 1, none⟩ = some (.string s) := (box2O (put2O hx)).2.1
    clear ho7 hc7 hxb7 hx he
    refine wp_region_noPanic ?_
    refine wp_region_held_drew (S := fun W => W.cell? ⟨xb, 0, none⟩ = some (.int .i64 z) ∧ W.cell? ⟨xb, 1, none⟩ = some (.string s)) (by kernel_rfl) ⟨a0, a1⟩ (fun hH => ?_)
    refine tkG 0 24 hH ?_
    try simp only [Act.put, List.setIfInBounds_toArray, List.set_cons_zero, List.set_cons_succ]
    refine tkG 1 25 hH ?_
    try simp only [Act.put, List.setIfInBounds_toArray, List.set_cons_zero, List.set_cons_succ]
    refine tkG 2 2 hH ?_
    try simp only [Act.put, List.setIfInBounds_toArray, List.set_cons_zero, List.set_cons_succ]
    refine wpAnyH_ready (rs := [3]) (by kernel_rfl) (by simp) ?_
    refine AllReadyH.cons rfl (fun K hK => ?_) AllReadyH.nil
    go_simp
    refine hK.out _ _ ⟨cell_put2 hH.1 hb1, cell_put2 hH.2 hb1⟩ (fun hB => ?_)
    clear hK K
    try simp only [Act.put, List.setIfInBounds_toArray, List.set_cons_zero, List.set_cons_succ]
    refine wpAnyH_done (by kernel_rfl) ?_ _
    refine NoPanic.normal ?_
    clear hH hB
    go_wp2
    exact bodyPost_ret (v := .tuple #[u, .agg #[.int .i64 z, .string s]]) (by simp [results, Try.results9, go_sem, k0, k1]) rfl HE.out
/-- What the draw of a pool and a number leaves. -/
def ChoD (w : World) (e : Ending) (w' : World) : Prop := ∃ (u : Value) (es : List Off) (z : Int), e = .returned (.tuple #[u, .int .i64 z]) ∧ OwnO w' w.heap.size u es ∧ es.length ≤ 51 ∧ (∀ x ∈ es, x.text.size ≤ 61) ∧ -9223372036854775808 ≤ z ∧ z ≤ 9223372036854775807 ∧ Below w.heap.size w w'
theorem sevenB : ∀ t, t < 7 → -9223372036854775808 ≤ List.getD [(-1 : Int), 0, 1, 3, 9, 4611686018427387904, -9223372036854775808] t 0 ∧ List.getD [(-1 : Int), 0, 1, 3, 9, 4611686018427387904, -9223372036854775808] t 0 ≤ 9223372036854775807 := by decide
set_option maxHeartbeats 8000000 in
set_option maxRecDepth 100000 in
theorem drawChosen_any (v : Value) (bs : List UInt8) (w : World) (hr : Rd w v bs) (hb : bs.length ≤ 4096) :
    Calls Try.prog 13 #[v] w fun e w' => ChoD w e w' := by
  go_enter Try.func13, Try.ntmps13
  go_wp2_with fail
  refine (l1New_any v bs _ hr hb).mono ?_
  rintro e w1 ⟨g, rfl, hc⟩
  have hW1 := hc.bel.size
  go_wp2_with fail
  refine (l14Draw_any w _ g hc).mono ?_
  rintro e w2 ⟨u, es, rfl, ho, hl, ht, K⟩
  have hdc := K.1
  have hgl := K.2.2
  have HT : Hid (∀ x ∈ es, x.text.size ≤ 61) := ht
  clear K hc hr ht
  go_wp2_with fail
  refine wp_region_noPanic ?_
  refine wp_region_held_drew (S := fun _ => True) (by kernel_rfl) trivial (fun hS => ?_)
  replace hdc := dcur_belowO hdc ((Below.refl _ _).drew)
  replace ho := OwnO.below (w := w2) ho ((Below.refl _ _).drew)
  refine tkG 0 10 hS ?_
  try simp only [Act.put, List.setIfInBounds_toArray, List.set_cons_zero, List.set_cons_succ]
  refine tkG 2 12 hS ?_
  try simp only [Act.put, List.setIfInBounds_toArray, List.set_cons_zero, List.set_cons_succ]
  revert hS
  revert hdc
  revert ho
  generalize w2.drew = V
  intro ho hdc hS
  refine wpAnyH_ready (rs := [1, 3]) (by kernel_rfl) (by simp) ?_
  refine AllReadyH.cons rfl (fun K hK => ?_) ?_
  go_simp
  have hqg : V.heap.size ≠ g := by have := hdc.lt; omega
  have hq := alloc_at V (.cells #[.int .i64 (-1), .int .i64 0, .int .i64 1, .int .i64 3, .int .i64 9, .int .i64 4611686018427387904, .int .i64 (-9223372036854775808)] 2)
  replace hdc := dcur_belowO hdc (below1 V (.cells #[.int .i64 (-1), .int .i64 0, .int .i64 1, .int .i64 3, .int .i64 9, .int .i64 4611686018427387904, .int .i64 (-9223372036854775808)] 2))
  replace ho := ho.below (below1 V (.cells #[.int .i64 (-1), .int .i64 0, .int .i64 1, .int .i64 3, .int .i64 9, .int .i64 4611686018427387904, .int .i64 (-9223372036854775808)] 2))
  clear hS
  refine hK.out _ _ trivial (fun hS => ?_)
  clear hK K
  try simp only [List.setIfInBounds_toArray, List.set_cons_zero, List.set_cons_succ]
  revert hS
  revert ho
  revert hdc
  revert hq
  revert hqg
  generalize V.alloc (.cells #[.int .i64 (-1), .int .i64 0, .int .i64 1, .int .i64 3, .int .i64 9, .int .i64 4611686018427387904, .int .i64 (-9223372036854775808)] 2) = V1
  generalize V.heap.size = q
  intro hqg hq hdc ho hS
  clear hS
  refine listed_asO (l' := #[true, true, true, false, false, false, false, false]) (by kernel_rfl) ?_
  revert hq
  revert hqg
  revert ho
  revert hdc
  revert q
  revert V1
  clear V
  refine ?ch1
  rotate_left 1
  refine AllReadyH.cons rfl (fun K hK => ?_) AllReadyH.nil
  go_simp
  refine (l1Below_any w _ g 7 hdc (by omega) (by omega)).mono ?_
  rintro e V1 ⟨t, rfl, h0t, h1t, hc, hg⟩
  replace ho := ownO_g ho hg hgl
  replace hdc := hc
  clear hc hg hS
  obtain ⟨t, rfl⟩ := Int.eq_ofNat_of_zero_le h0t
  have ht : t < 7 := by omega
  have htI : (t : Int) < 7 := h1t
  clear h0t h1t
  refine hK.out _ _ trivial (fun hS => ?_)
  clear hK K
  try simp only [List.setIfInBounds_toArray, List.set_cons_zero, List.set_cons_succ]
  refine tkG 6 2 hS ?_
  try simp only [Act.put, List.setIfInBounds_toArray, List.set_cons_zero, List.set_cons_succ]
  clear hS
  refine listed_asO (l' := #[true, false, true, true, false, false, true, false]) (by kernel_rfl) ?_
  revert htI
  revert ht
  revert ho
  revert hdc
  revert t
  revert V1
  clear V
  refine ?ch3
  rotate_left 1
  intro V0 q hdc ho hqg hq
  have hS : (fun _ : World => True) V0 := trivial
  refine wpAnyH_ready (rs := [3]) (by kernel_rfl) (by simp) ?_
  refine AllReadyH.cons rfl (fun K hK => ?_) AllReadyH.nil
  go_simp
  refine (l1Below_any w _ g 7 hdc (by omega) (by omega)).mono ?_
  rintro e V1 ⟨t, rfl, h0t, h1t, hc, hg⟩
  replace ho := ownO_g ho hg hgl
  replace hq := blk_gO hq hg hqg
  replace hdc := hc
  clear hc hg hS
  obtain ⟨t, rfl⟩ := Int.eq_ofNat_of_zero_le h0t
  have ht : t < 7 := by omega
  have htI : (t : Int) < 7 := h1t
  clear h0t h1t
  refine hK.out _ _ trivial (fun hS => ?_)
  clear hK K
  try simp only [List.setIfInBounds_toArray, List.set_cons_zero, List.set_cons_succ]
  refine tkG 6 2 hS ?_
  try simp only [Act.put, List.setIfInBounds_toArray, List.set_cons_zero, List.set_cons_succ]
  refine tkG 4 14 hS ?_
  try simp only [Act.put, List.setIfInBounds_toArray, List.set_cons_zero, List.set_cons_succ]
  clear hS
  refine listed_asO (l' := #[true, true, true, true, true, false, true, false]) (by kernel_rfl) ?_
  revert htI
  revert ht
  revert hq
  revert hqg
  revert ho
  revert hdc
  revert t
  revert q
  revert V1
  clear V0
  refine ?ch13
  rotate_left 1
  intro V0 t hdc ho ht htI
  have hS : (fun _ : World => True) V0 := trivial
  refine wpAnyH_ready (rs := [1]) (by kernel_rfl) (by simp) ?_
  refine AllReadyH.cons rfl (fun K hK => ?_) AllReadyH.nil
  go_simp
  have hqg : V0.heap.size ≠ g := by have := hdc.lt; omega
  have hq := alloc_at V0 (.cells #[.int .i64 (-1), .int .i64 0, .int .i64 1, .int .i64 3, .int .i64 9, .int .i64 4611686018427387904, .int .i64 (-9223372036854775808)] 2)
  replace hdc := dcur_belowO hdc (below1 V0 (.cells #[.int .i64 (-1), .int .i64 0, .int .i64 1, .int .i64 3, .int .i64 9, .int .i64 4611686018427387904, .int .i64 (-9223372036854775808)] 2))
  replace ho := ho.below (below1 V0 (.cells #[.int .i64 (-1), .int .i64 0, .int .i64 1, .int .i64 3, .int .i64 9, .int .i64 4611686018427387904, .int .i64 (-9223372036854775808)] 2))
  clear hS
  refine hK.out _ _ trivial (fun hS => ?_)
  clear hK K
  try simp only [List.setIfInBounds_toArray, List.set_cons_zero, List.set_cons_succ]
  revert hS
  revert ho
  revert hdc
  revert hq
  revert hqg
  generalize V0.alloc (.cells #[.int .i64 (-1), .int .i64 0, .int .i64 1, .int .i64 3, .int .i64 9, .int .i64 4611686018427387904, .int .i64 (-9223372036854775808)] 2) = V1
  generalize V0.heap.size = q
  intro hqg hq hdc ho hS
  refine tkG 4 14 hS ?_
  try simp only [Act.put, List.setIfInBounds_toArray, List.set_cons_zero, List.set_cons_succ]
  clear hS
  refine listed_asO (l' := #[true, true, true, true, true, false, true, false]) (by kernel_rfl) ?_
  revert htI
  revert ht
  revert hq
  revert hqg
  revert ho
  revert hdc
  revert t
  revert q
  revert V1
  clear V0
  exact ?ch13
  intro V0 q t hdc ho hqg hq ht htI
  have hS : (fun _ : World => True) V0 := trivial
  refine wpAnyH_ready (rs := [5]) (by kernel_rfl) (by simp) ?_
  refine AllReadyH.cons rfl (fun K hK => ?_) AllReadyH.nil
  have cz := row_atO (zs := [-1, 0, 1, 3, 9, 4611686018427387904, -9223372036854775808]) hq t ht
  obtain ⟨zl, zh⟩ := sevenB t ht
  generalize List.getD [-1, 0, 1, 3, 9, 4611686018427387904, -9223372036854775808] t 0 = z at cz zl zh
  go_simp
  clear cz hS
  refine hK.out _ _ trivial (fun hS => ?_)
  clear hK K
  try simp only [List.setIfInBounds_toArray, List.set_cons_zero, List.set_cons_succ]
  refine tkG 7 3 hS ?_
  try simp only [Act.put, List.setIfInBounds_toArray, List.set_cons_zero, List.set_cons_succ]
  clear hS
  refine listed_asO (l' := #[true, true, true, true, true, true, true, true]) (by kernel_rfl) ?_
  revert zh
  revert zl
  revert htI
  revert ht
  revert hq
  revert hqg
  revert ho
  revert hdc
  revert z
  revert t
  revert q
  revert V0
  refine ?ch135
  rotate_left 1
  intro V0 q t z hdc ho hqg hq ht htI zl zh
  have hS : (fun _ : World => True) V0 := trivial
  refine wpAnyH_done (by kernel_rfl) ?_ _
  refine NoPanic.normal ?_
  have HE : Hid (ChoD w (.returned (.tuple #[u, .int .i64 z])) V0) := ⟨u, es, z, rfl, ho.mono hW1, hl, HT.out, zl, zh, hdc.bel⟩
  clear hS ho hdc hq
  go_wp2
  go_ret2
  exact HE.out
end Go.Proofs.Yteohiicaiilicaa
