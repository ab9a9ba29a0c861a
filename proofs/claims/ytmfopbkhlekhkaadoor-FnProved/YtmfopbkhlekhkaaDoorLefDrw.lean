/- The draws of places, values and Leafs, and of what Parted is asked. -/
-- UNF Gen
import Derived.Test.YtmfopbkhlekhkaaDoorLefSet
import Derived.Test.YtmfopbkhlekhkaaDoorLefCp
import Derived.Test.YtmfopbkhlekhkaaDoorTriWay
import Derived.Test.YtmfopbkhlekhkaaDoorBend
namespace Go.Proofs.YtmfopbkhlekhkaaDoor
open Go.RowKit
theorem dcur_belowL {w0 w w' : World} {g : Nat} (h : DCur w0 w g) (hb : Below w.heap.size w w') : DCur w0 w' g := by
  have hl := h.lt
  obtain ⟨v, bs, i, x, h1, h2, h3, h4, h5, h6⟩ := h
  exact ⟨v, bs, i, x, h1, h2, h3, by rw [hb.block g hl]; exact h4, h5.trans (hb.mono h5.size), h6⟩
theorem gr_belowL {a w w' : World} {row : Option Nat} (h : a.grownBy w row) (hb : Below w.heap.size w w') : a.grownBy w' row :=
  ⟨hb.os.trans h.os, hb.tape.trans h.tape, hb.output.trans h.output, Nat.le_trans h.size hb.size, fun k hk hr => (hb.block k (Nat.lt_of_lt_of_le hk h.size)).trans (h.block k hk hr)⟩
theorem keepL_below {w0 w W W' : World} {g : Nat} (h : Keep w0 w g W) (hb : Below W.heap.size W W') : Keep w0 w g W' := ⟨dcur_belowL h.1 hb, gr_belowL h.2.1 hb, h.2.2⟩
theorem keepL_set {w0 w W : World} {g b j : Nat} {u : Value} (h : Keep w0 w g W) (hb : w.heap.size ≤ b) : Keep w0 w g (W.setCell ⟨b, j, none⟩ u) := h.step (set_grown u) (fun k hk => by have := Option.some.inj hk; omega)
theorem keepL_start {w0 w : World} {g : Nat} (h : DCur w0 w g) : Keep w0 w g w := ⟨h, gr_refl _ _, h.lt⟩
theorem ownL_kept {w w' : World} {B : Nat} {v : Value} {es : List Lef} (h : OwnL w B v es) (hk : ∀ k, v.ownBlock = some k → w'.heap[k]? = w.heap[k]?) : OwnL w' B v es := by
  refine ⟨h.1, ?_⟩
  rcases h.2 with h2 | ⟨g, cap, cur, hv, hg, hh, r⟩
  · exact .inl h2
  · exact .inr ⟨g, cap, cur, hv, hg, (hk g (by rw [hv]; rfl)).trans hh, r⟩
theorem ownL_g {w w' : World} {B g : Nat} {v : Value} {es : List Lef} (h : OwnL w B v es) (hg : w.grownBy w' (some g)) (hB : g < B) : OwnL w' B v es :=
  ownL_kept h (fun k hk => hg.block k (ownL_lt h k hk) (fun e => by have := (World.ownsRow.lt h k hk).1; have := Option.some.inj e; omega))
theorem ownI_g {w w' : World} {B g : Nat} {v : Value} {ns : List Int} (h : OwnI w B v ns) (hg : w.grownBy w' (some g)) (hB : g < B) : OwnI w' B v ns :=
  row_kept h hg (fun k hk e => by have := (World.ownsRow.lt h k hk).1; have := Option.some.inj e; omega)
theorem alloc_atL (w : World) (o : Obj) : (w.alloc o).heap[w.heap.size]? = some o := by rw [show (w.alloc o).heap = w.heap.push o from rfl]; simp
theorem blk_gL {W W' : World} {q g : Nat} {o : Obj} (h : W.heap[q]? = some o) (hg : W.grownBy W' (some g)) (hn : q ≠ g) : W'.heap[q]? = some o := (hg.block q (Array.getElem?_eq_some_iff.1 h).1 (fun e => hn (by simpa using e))).trans h
theorem row_atL {W : World} {q : Nat} {zs : List Int} (h : W.heap[q]? = some (.cells (zs.map (fun z => Value.int .i64 z)).toArray 2 (0, 0))) (k : Nat) (hk : k < zs.length) : W.cell? ⟨q, k, none⟩ = some (.int .i64 (zs.getD k 0)) := by
  simp [World.cell?, h, List.getD, hk]
theorem getD_i64 {zs : List Int} (h : ∀ y ∈ zs, I64 y) (j : Nat) : I64 (zs.getD j 0) := by
  by_cases hj : j < zs.length
  · rw [← getD_at hj]
    exact h _ (List.getElem_mem hj)
  · have e : zs.getD j 0 = 0 := by simp [List.getD, List.getElem?_eq_none (show zs.length ≤ j by omega)]
    rw [e]; exact ⟨by omega, by omega⟩
theorem rdL_slice {w : World} {v : Value} {es : List Lef} (h : RdL w v es) : ∃ a c, v = .slice a es.length c ∧ es.length ≤ c ∧ c ≤ maxLen := by
  obtain ⟨a, c, hv, h1, h2, -⟩ := h
  exact ⟨a, c, hv, h1, h2⟩
theorem ownL_head {w : World} {B n c : Nat} {a : Option Addr} {es : List Lef} (h : OwnL w B (.slice a n c) es) (h0 : 0 < n) : ∃ g, a = some ⟨g, 0, none⟩ := by
  rcases h.2 with ⟨hv, _⟩ | ⟨g, cap, cur, hv, _⟩
  · simp only [Value.slice.injEq] at hv; omega
  · simp only [Value.slice.injEq] at hv; exact ⟨g, hv.1⟩
theorem ownI_head {w : World} {B n c : Nat} {a : Option Addr} {ns : List Int} (h : OwnI w B (.slice a n c) ns) (h0 : 0 < n) : ∃ g, a = some ⟨g, 0, none⟩ := by
  rcases h.2 with ⟨hv, _⟩ | ⟨g, cap, cur, hv, _⟩
  · simp only [Value.slice.injEq] at hv; omega
  · simp only [Value.slice.injEq] at hv; exact ⟨g, hv.1⟩
/-- What the draw of a number leaves. -/
def NumD (w0 w : World) (g : Nat) (e : Ending) (w' : World) : Prop := ∃ z : Int, e = .returned (.int .i64 z) ∧ I64 z ∧ Keep w0 w g w'
set_option maxHeartbeats 2000000 in
set_option maxRecDepth 100000 in
theorem l12DrawAt_any (w0 w : World) (g : Nat) (h : DCur w0 w g) :
    Calls Tryd.prog 35 #[.pointer (some ⟨g, 0, none⟩)] w fun e w' => NumD w0 w g e w' := by
  have K := keepL_start h
  clear h
  go_enter Tryd.func35, Tryd.ntmps35
  go_wp2_with fail
  refine (l1Once_any w0 _ g 10 K.1 (by omega) (by omega)).mono ?_
  rintro e V1 ⟨bo, rfl, hc, hg⟩
  replace K := K.own hc hg
  clear hc hg
  cases bo with
  | true =>
    have hqg : V1.heap.size ≠ g := by have := K.1.lt; omega
    have hq := alloc_atL V1 (.cells #[.int .i64 (-1), .int .i64 0, .int .i64 255, .int .i64 256, .int .i64 4611686018427387904] 2)
    replace K := keepL_below K (below1 V1 (.cells #[.int .i64 (-1), .int .i64 0, .int .i64 255, .int .i64 256, .int .i64 4611686018427387904] 2))
    go_wp2_with fail
    refine (l1Below_any w0 _ g 5 K.1 (by omega) (by omega)).mono ?_
    rintro e V2 ⟨t, rfl, h0, h1, hc, hg⟩
    replace K := K.own hc hg
    replace hq := blk_gL hq hg hqg
    clear hc hg
    generalize V1.heap.size = q at hq hqg ⊢
    obtain ⟨t, rfl⟩ := Int.eq_ofNat_of_zero_le h0
    have cz := row_atL (zs := [-1, 0, 255, 256, 4611686018427387904]) hq t (by show t < 5; omega)
    have hz : I64 (List.getD [-1, 0, 255, 256, 4611686018427387904] t 0) := getD_i64 (by intro y hy; simp at hy; unfold I64; omega) t
    generalize List.getD [-1, 0, 255, 256, 4611686018427387904] t 0 = z at cz hz
    have HE : Hid (NumD w0 w g (.returned (.int .i64 z)) V2) := ⟨z, rfl, hz, K⟩
    clear K hq hz
    go_wp2
    go_ret
    exact HE.out
  | false =>
    go_wp2_with fail
    refine (l1Below_any w0 _ g 256 K.1 (by omega) (by omega)).mono ?_
    rintro e V2 ⟨x, rfl, h0x, h1x, hc, hg⟩
    replace K := K.own hc hg
    clear hc hg
    have hqg : V2.heap.size ≠ g := by have := K.1.lt; omega
    have hq := alloc_atL V2 (.cells #[.int .i64 7, .int .i64 6, .int .i64 0, .int .i64 200, .int .i64 x] 2)
    replace K := keepL_below K (below1 V2 (.cells #[.int .i64 7, .int .i64 6, .int .i64 0, .int .i64 200, .int .i64 x] 2))
    go_wp2_with fail
    refine (l1Below_any w0 _ g 5 K.1 (by omega) (by omega)).mono ?_
    rintro e V3 ⟨t, rfl, h0, h1, hc, hg⟩
    replace K := K.own hc hg
    replace hq := blk_gL hq hg hqg
    clear hc hg
    generalize V2.heap.size = q at hq hqg ⊢
    obtain ⟨t, rfl⟩ := Int.eq_ofNat_of_zero_le h0
    have cz := row_atL (zs := [7, 6, 0, 200, x]) hq t (by show t < 5; omega)
    have hz : I64 (List.getD [7, 6, 0, 200, x] t 0) := getD_i64 (by intro y hy; simp at hy; unfold I64; omega) t
    generalize List.getD [7, 6, 0, 200, x] t 0 = z at cz hz
    have HE : Hid (NumD w0 w g (.returned (.int .i64 z)) V3) := ⟨z, rfl, hz, K⟩
    clear K hq hz
    go_wp2
    go_ret
    exact HE.out
set_option maxHeartbeats 2000000 in
set_option maxRecDepth 100000 in
theorem l12DrawValue_any (w0 w : World) (g : Nat) (h : DCur w0 w g) :
    Calls Tryd.prog 36 #[.pointer (some ⟨g, 0, none⟩)] w fun e w' => NumD w0 w g e w' := by
  have K := keepL_start h
  clear h
  go_enter Tryd.func36, Tryd.ntmps36
  go_wp2_with fail
  refine (l1Once_any w0 _ g 10 K.1 (by omega) (by omega)).mono ?_
  rintro e V1 ⟨bo, rfl, hc, hg⟩
  replace K := K.own hc hg
  clear hc hg
  cases bo with
  | true =>
    have hqg : V1.heap.size ≠ g := by have := K.1.lt; omega
    have hq := alloc_atL V1 (.cells #[.int .i64 (-1), .int .i64 (-2), .int .i64 0, .int .i64 1000000000, .int .i64 1000000001, .int .i64 (-9223372036854775808)] 2)
    replace K := keepL_below K (below1 V1 (.cells #[.int .i64 (-1), .int .i64 (-2), .int .i64 0, .int .i64 1000000000, .int .i64 1000000001, .int .i64 (-9223372036854775808)] 2))
    go_wp2_with fail
    refine (l1Below_any w0 _ g 6 K.1 (by omega) (by omega)).mono ?_
    rintro e V2 ⟨t, rfl, h0, h1, hc, hg⟩
    replace K := K.own hc hg
    replace hq := blk_gL hq hg hqg
    clear hc hg
    generalize V1.heap.size = q at hq hqg ⊢
    obtain ⟨t, rfl⟩ := Int.eq_ofNat_of_zero_le h0
    have cz := row_atL (zs := [-1, -2, 0, 1000000000, 1000000001, -9223372036854775808]) hq t (by show t < 6; omega)
    have hz : I64 (List.getD [-1, -2, 0, 1000000000, 1000000001, -9223372036854775808] t 0) := getD_i64 (by intro y hy; simp at hy; unfold I64; omega) t
    generalize List.getD [-1, -2, 0, 1000000000, 1000000001, -9223372036854775808] t 0 = z at cz hz
    have HE : Hid (NumD w0 w g (.returned (.int .i64 z)) V2) := ⟨z, rfl, hz, K⟩
    clear K hq hz
    go_wp2
    go_ret
    exact HE.out
  | false =>
    go_wp2_with fail
    refine (l1Below_any w0 _ g 9000 K.1 (by omega) (by omega)).mono ?_
    rintro e V2 ⟨x, rfl, h0x, h1x, hc, hg⟩
    replace K := K.own hc hg
    clear hc hg
    have hqg : V2.heap.size ≠ g := by have := K.1.lt; omega
    have hq := alloc_atL V2 (.cells #[.int .i64 x, .int .i64 102598060, .int .i64 374061196, .int .i64 (-1)] 2)
    replace K := keepL_below K (below1 V2 (.cells #[.int .i64 x, .int .i64 102598060, .int .i64 374061196, .int .i64 (-1)] 2))
    go_wp2_with fail
    refine (l1Below_any w0 _ g 4 K.1 (by omega) (by omega)).mono ?_
    rintro e V3 ⟨t, rfl, h0, h1, hc, hg⟩
    replace K := K.own hc hg
    replace hq := blk_gL hq hg hqg
    clear hc hg
    generalize V2.heap.size = q at hq hqg ⊢
    obtain ⟨t, rfl⟩ := Int.eq_ofNat_of_zero_le h0
    have cz := row_atL (zs := [x, 102598060, 374061196, -1]) hq t (by show t < 4; omega)
    have hz : I64 (List.getD [x, 102598060, 374061196, -1] t 0) := getD_i64 (by intro y hy; simp at hy; unfold I64; omega) t
    generalize List.getD [x, 102598060, 374061196, -1] t 0 = z at cz hz
    have HE : Hid (NumD w0 w g (.returned (.int .i64 z)) V3) := ⟨z, rfl, hz, K⟩
    clear K hq hz
    go_wp2
    go_ret
    exact HE.out
/-- What the draw of Leafs leaves. -/
def LefD (w0 w : World) (g : Nat) (e : Ending) (w' : World) : Prop := ∃ u es, e = .returned u ∧ OwnL w' w.heap.size u es ∧ es.length ≤ 257 ∧ Keep w0 w g w'
set_option maxHeartbeats 8000000 in
set_option maxRecDepth 100000 in
theorem l12Draw_any (w0 w : World) (g : Nat) (h : DCur w0 w g) :
    Calls Tryd.prog 34 #[.pointer (some ⟨g, 0, none⟩)] w fun e w' => LefD w0 w g e w' := by
  have K := keepL_below (keepL_start h) (below1 w (.cells #[] 42))
  have ho := ownL_none w
  have hgl := h.lt
  clear h
  go_enter Tryd.func34, Tryd.ntmps34
  go_wp2_with fail
  refine (l1Below_any w0 _ g 8 K.1 (by omega) (by omega)).mono ?_
  rintro e V1 ⟨x, rfl, h0, h1, hc, hg⟩
  replace K := K.own hc hg
  replace ho := ownL_g ho hg hgl
  clear hc hg
  obtain ⟨m0, rfl⟩ := Int.eq_ofNat_of_zero_le h0
  have hm0 : m0 ≤ 7 := by omega
  clear h0 h1
  go_wp2
  go_loopw [3, 4] (fun lv nv wr => ∃ (m : Nat) (es : List Lef), nv = .int .i64 (m : Int) ∧ m ≤ 7 ∧ Hid (es.length ≤ 257) ∧ OwnL wr w.heap.size lv es ∧ Keep w0 w g wr) (fun _ nv _ => (intOf nv).toNat)
  case atStart => exact ⟨m0, [], rfl, hm0, (by show 0 ≤ 257; omega), ho, K⟩
  case round =>
    clear K ho hm0
    obtain ⟨m, es, rfl, hm, HL, ho, K⟩ := hrel
    by_cases hm0 : 0 < m
    · go_wp2_with fail
      refine (l12DrawAt_any w0 _ g K.1).mono ?_
      rintro e V1 ⟨p, rfl, hp, K1⟩
      replace ho := ownL_g ho K1.2.1 hgl
      replace K := K.own K1.1 K1.2.1
      clear K1 hp
      go_wp2_with fail
      refine (l12DrawValue_any w0 _ g K.1).mono ?_
      rintro e V2 ⟨q, rfl, hq, K1⟩
      replace ho := ownL_g ho K1.2.1 hgl
      replace K := K.own K1.1 K1.2.1
      clear K1 hq
      go_wp2_with fail
      refine (specSet_any _ es p q _ ho.rd).mono ?_
      rintro e V3 ⟨u, rfl, ho3, hb3⟩
      have hl3 := setR_len es p q
      have K3 := keepL_below K hb3
      have R0 := ho.below hb3
      have R1 := ho3.mono K.2.1.size
      generalize setR es p q = es3 at R1 hl3
      obtain ⟨ua, uc, rfl, huc, hum⟩ := rdL_slice R1.rd
      unfold maxLen at hum
      obtain ⟨un, hun⟩ : ∃ n, n = es3.length := ⟨_, rfl⟩
      rw [← hun] at R1 huc hl3 ⊢
      have HL3 : Hid (es3.length ≤ 257) := by unfold Hid; omega
      clear ho ho3 hb3 K hun
      by_cases hu0 : un = 0
      · subst hu0
        go_wp2
        go_roundw
        case rel => exact ⟨m - 1, _, by go_num, by omega, HL, R0, K3⟩
        case measure => simp [intOf]; omega
      · have hup : (0 : Int) < (un : Int) := by omega
        go_wp2
        go_roundw
        case rel => exact ⟨m - 1, _, by go_num, by omega, HL3, R1, K3⟩
        case measure => simp [intOf]; omega
    · have hm00 : m = 0 := by omega
      subst hm00
      clear hm0
      obtain ⟨la, lc, rfl, hlc, hlm⟩ := rdL_slice ho.rd
      unfold maxLen at hlm
      obtain ⟨ln, hln⟩ : ∃ n, n = es.length := ⟨_, rfl⟩
      rw [← hln] at ho hlc ⊢
      have HLN : Hid (ln = es.length) := hln
      have hn257 : ln ≤ 257 := by have := HL.out; omega
      clear hln HL
      go_wp2_with fail
      refine (l1Once_any w0 _ g 12 K.1 (by omega) (by omega)).mono ?_
      rintro e V1 ⟨bo, rfl, hc, hg⟩
      replace K := K.own hc hg
      replace ho := ownL_g ho hg hgl
      clear hc hg
      have HE : Hid (LefD w0 w g (.returned (.slice la ln lc)) V1) := ⟨_, es, rfl, ho, by have := HLN.out; omega, K⟩
      cases bo with
      | false =>
        clear ho K
        go_wp2
        go_ret
        exact HE.out
      | true =>
        by_cases hl0 : ln = 0
        · subst hl0
          clear ho K
          go_wp2
          go_ret
          exact HE.out
        clear HE
        obtain ⟨gg, rfl⟩ := ownL_head ho (by omega)
        have hgg := (World.ownsRow.lt ho gg rfl).1
        have hlp : (0 : Int) < (ln : Int) := by omega
        go_wp2_with fail
        refine (l1Below_any w0 _ g (ln : Int) K.1 (by omega) (by omega)).mono ?_
        rintro e V2 ⟨x, rfl, h0, h1, hc, hg⟩
        replace K := K.own hc hg
        replace ho := ownL_g ho hg hgl
        clear hc hg
        obtain ⟨j, rfl⟩ := Int.eq_ofNat_of_zero_le h0
        have hjl : j < ln := by omega
        go_wp2_with fail
        refine (l1Below_any w0 _ g 2 K.1 (by omega) (by omega)).mono ?_
        rintro e V3 ⟨y, rfl, h0y, h1y, hc, hg⟩
        replace K := K.own hc hg
        replace ho := ownL_g ho hg hgl
        clear hc hg
        have hy2 : y = 0 ∨ y = 1 := by omega
        clear h0y h1y
        rcases hy2 with rfl | rfl
        · go_wp2_with fail
          refine (l12DrawAt_any w0 _ g K.1).mono ?_
          rintro e V4 ⟨z, rfl, hz, K1⟩
          replace ho := ownL_g ho K1.2.1 hgl
          replace K := K.own K1.1 K1.2.1
          clear K1 hz
          have hos := ho
          unfold OwnL at hos
          rw [← HLN.out] at hos
          have d0 := (ownL_cell hos HLN.out j hjl).1
          have f0 := World.ownsRow.frozenAt hos (j * 2)
          have hst := ownL_store hos (k := j) (j := 0) (by have := HLN.out; omega) (by omega) (u := .int .i64 z) (e' := { nthL es j with pl := z }) rfl
          have HE : Hid (LefD w0 w g (.returned (.slice (some ⟨gg, 0, none⟩) ln lc)) (V4.setCell ⟨gg, j * 2, none⟩ (.int .i64 z))) := ⟨_, es.set j { nthL es j with pl := z }, rfl, by
            unfold OwnL
            rw [List.length_set, ← HLN.out]
            exact hst, by rw [List.length_set, ← HLN.out]; omega, keepL_set K hgg⟩
          generalize nthL es j = cj at d0
          clear ho hos hst K
          go_wp2
          go_ret
          exact HE.out
        · go_wp2_with fail
          refine (l12DrawValue_any w0 _ g K.1).mono ?_
          rintro e V4 ⟨z, rfl, hz, K1⟩
          replace ho := ownL_g ho K1.2.1 hgl
          replace K := K.own K1.1 K1.2.1
          clear K1 hz
          have hos := ho
          unfold OwnL at hos
          rw [← HLN.out] at hos
          have d0 := (ownL_cell hos HLN.out j hjl).2
          have f0 := World.ownsRow.frozenAt hos (j * 2 + 1)
          have hst := ownL_store hos (k := j) (j := 1) (by have := HLN.out; omega) (by omega) (u := .int .i64 z) (e' := { nthL es j with va := z }) rfl
          have HE : Hid (LefD w0 w g (.returned (.slice (some ⟨gg, 0, none⟩) ln lc)) (V4.setCell ⟨gg, j * 2 + 1, none⟩ (.int .i64 z))) := ⟨_, es.set j { nthL es j with va := z }, rfl, by
            unfold OwnL
            rw [List.length_set, ← HLN.out]
            exact hst, by rw [List.length_set, ← HLN.out]; omega, keepL_set K hgg⟩
          generalize nthL es j = cj at d0
          clear ho hos hst K
          go_wp2
          go_ret
          exact HE.out
theorem bes_i64 (es : List Lef) (A s : Nat) : I64 (besL es A s) := i64_small (grp_lo (fL_lo es) _ _) (grp_hi (fL_hi es) _ _)
theorem wayR_i64 (es : List Lef) (p : Int) : ∀ y ∈ wayR es p, I64 y := by
  unfold wayR
  split
  · intro y hy
    unfold wayL at hy
    obtain ⟨s, -, rfl⟩ := List.mem_map.1 hy
    exact bes_i64 _ _ _
  · intro y hy; cases hy
theorem wayR_short (es : List Lef) (p : Int) : (wayR es p).length ≤ 8 := by
  unfold wayR
  split
  · rw [wayL_len]; omega
  · simp
/-- What the draw of what Parted is asked leaves. -/
def PtdD (w : World) (e : Ending) (w' : World) : Prop := ∃ (a x : Int) (wv : Value) (ws : List Int) (o : Int) (vv : Value) (us : List Int), e = .returned (.tuple #[.int .i64 a, .int .i64 x, wv, .int .i64 o, vv]) ∧ RdI w' wv ws ∧ RdI w' vv us ∧ (∀ j, I64 (ws.getD j 0)) ∧ (∀ j, I64 (us.getD j 0)) ∧ Below w.heap.size w w'
set_option maxHeartbeats 8000000 in
set_option maxRecDepth 100000 in
theorem drawParted_any (v : Value) (bs : List UInt8) (w : World) (hr : Rd w v bs) (hb : bs.length ≤ 4096) :
    Calls Tryd.prog 26 #[v] w fun e w' => PtdD w e w' := by
  go_enter Tryd.func26, Tryd.ntmps26
  go_wp2_with fail
  refine (l1New_any v bs _ hr hb).mono ?_
  rintro e w1 ⟨g, rfl, hc⟩
  have hgl := hc.lt
  have hw1 := hc.bel.size
  go_wp2_with fail
  refine (l12Draw_any w _ g hc).mono ?_
  rintro e w2 ⟨u, es, rfl, ho, hl, K⟩
  have hw2 := K.2.1.size
  clear hc hr
  go_wp2_with fail
  refine (l1Once_any w _ g 4 K.1 (by omega) (by omega)).mono ?_
  rintro e w3 ⟨b1, rfl, hc, hg⟩
  replace K := K.own hc hg
  replace ho := ownL_g ho hg K.2.2
  have hw3 := hg.size
  clear hc hg
  cases b1 with
  | false =>
    go_wp2_with fail
    refine (specWay_any _ es (7) _ ho.rd).mono ?_
    rintro e w5 ⟨wv, rfl, hwv, hb5⟩
    have K5 := keepL_below K hb5
    have hw5 := hb5.size
    have HI : Hid (∀ y ∈ wayR es (7), I64 y) := wayR_i64 es (7)
    have hls : (wayR es (7)).length ≤ 8 := wayR_short es (7)
    generalize wayR es (7) = ws at hwv HI hls
    have HW : Hid (∀ j, I64 (ws.getD j 0)) := fun j => getD_i64 HI.out j
    have hgW : g < w3.heap.size := K.1.lt
    clear ho K hb5
    have hoi := (ownI_none w5)
    have hr5 := hwv.rd.below (below1 w5 (.cells #[] 2))
    replace K5 := keepL_below K5 (below1 w5 (.cells #[] 2))
    have hwv5 := OwnI.below hwv (below1 w5 (.cells #[] 2))
    go_wp2_with (at_builtin; (refine wpList_append_ints rfl _ _ rfl w5.heap.size _ _ [] ws rfl rfl hoi hr5 (by simp; omega) (by simp) ?_))
    intro vv w6 ho6 hg6
    have K6 : Keep w w1 g w6 := K5.step hg6 (fun k hk => by have : w5.heap.size = k := Option.some.inj hk; omega)
    have hwv6 : OwnI w6 w3.heap.size wv ws := row_kept hwv5 hg6 (fun k hk e => by have h1 := World.ownsRow.lt hwv k hk; have : w5.heap.size = k := Option.some.inj e; omega)
    have hw6 : w5.heap.size ≤ w6.heap.size := by have := hg6.size; simp at this; omega
    try rw [List.nil_append] at ho6
    have hwlt : ∀ k, wv.ownBlock = some k → k < w5.heap.size := fun k hk => (World.ownsRow.lt hwv k hk).2
    clear hoi hr5 K5 hwv5 hg6 hwv
    obtain ⟨ya, yc, rfl, hyc, hym, -⟩ := ho6.rd
    unfold maxLen at hym
    obtain ⟨yn, hyn⟩ : ∃ n, n = ws.length := ⟨_, rfl⟩
    have HYN : Hid (yn = ws.length) := hyn
    rw [← hyn] at ho6 hyc hls ⊢
    clear hyn
    go_wp2_with fail
    refine (l1Once_any w _ g 4 K6.1 (by omega) (by omega)).mono ?_
    rintro e w7 ⟨b2, rfl, hc, hg⟩
    replace K6 := K6.own hc hg
    replace ho6 := ownI_g ho6 hg (by omega)
    replace hwv6 := ownI_g hwv6 hg (by omega)
    clear hc hg
    have HEND : Hid (∀ (us : List Int) (W : World) (x o : Int), OwnI W w3.heap.size wv ws → RdI W (.slice ya yn yc) us → (∀ j, I64 (us.getD j 0)) → DCur w W g → PtdD w (.returned (.tuple #[.int .i64 (7), .int .i64 x, wv, .int .i64 o, .slice ya yn yc])) W) := fun us W x o h1 h2 h3 h4 => ⟨7, x, wv, ws, o, _, us, rfl, h1.rd, h2, HW.out, h3, h4.bel⟩
    cases b2 with
    | false =>
      go_wp2_with fail
      refine (l1Once_any w _ g 2 K6.1 (by omega) (by omega)).mono ?_
      rintro e wA ⟨b3, rfl, hc, hg⟩
      have hoA := ownI_g ho6 hg (by omega)
      have hwvA := ownI_g hwv6 hg (by omega)
      clear ho6 hwv6 hg
      cases b3 with
      | true =>
        have HE := HEND.out ws wA 102598060 374061196 hwvA hoA.rd HW.out hc
        clear hoA hwvA hc
        go_wp2
        refine bodyPost_ret ?_ rfl HE
        simp [results, Tryd.results26, go_sem]
      | false =>
        go_wp2_with fail
        refine (l12DrawValue_any w _ g hc).mono ?_
        rintro e wB ⟨x, rfl, hx, K1⟩
        have hoB := ownI_g hoA K1.2.1 (by omega)
        have hwvB := ownI_g hwvA K1.2.1 (by omega)
        have hcB := K1.1
        clear hoA hwvA K1 hc
        go_wp2_with fail
        refine (l12DrawValue_any w _ g hcB).mono ?_
        rintro e wC ⟨o, rfl, ho, K1⟩
        have hoC := ownI_g hoB K1.2.1 (by omega)
        have hwvC := ownI_g hwvB K1.2.1 (by omega)
        have HE := HEND.out ws wC x o hwvC hoC.rd HW.out K1.1
        clear hoC hwvC hoB hwvB K1 hcB
        go_wp2
        refine bodyPost_ret ?_ rfl HE
        simp [results, Tryd.results26, go_sem]
    | true =>
      by_cases hyp : 0 < yn
      · have hypI : (0 : Int) < (yn : Int) := by omega
        obtain ⟨qg, rfl⟩ := ownI_head ho6 hyp
        have hqg := (World.ownsRow.lt ho6 qg rfl).1
        go_wp2_with fail
        refine (l1Below_any w _ g 99 K6.1 (by omega) (by omega)).mono ?_
        rintro e w8 ⟨z, rfl, hz0, hz1, hc, hg⟩
        replace K6 := K6.own hc hg
        replace ho6 := ownI_g ho6 hg (by omega)
        replace hwv6 := ownI_g hwv6 hg (by omega)
        clear hc hg
        obtain ⟨cb, co, hce, d0⟩ := ho6.rd.at 0 (by have := HYN.out; omega)
        injection hce with hce
        injection hce with hc1 hc2 hc3
        subst hc1
        subst hc2
        have d1 : ∃ y : Int, w8.cell? ⟨qg, 0, none⟩ = some (.int .i64 y) := ⟨_, d0⟩
        obtain ⟨c0, d0⟩ := d1
        have hos := ho6
        unfold OwnI at hos
        rw [← HYN.out] at hos
        have f0 := World.ownsRow.frozenAt hos 0
        have ho9 : OwnI (w8.setCell ⟨qg, 0, none⟩ (.int .i64 z)) w5.heap.size (.slice (some ⟨qg, 0, none⟩) yn yc) (ws.set 0 z) := by
          have h := (hos.stored 0 (.int .i64 z)).1
          unfold OwnI
          rw [List.length_set, ← HYN.out, show IV (ws.set 0 z) = (IV ws).set 0 (.int .i64 z) by simp [IV, List.map_set]]
          exact h
        have K9 := keepL_set (b := qg) (j := 0) (u := .int .i64 z) K6 (by omega)
        have hwv9 : OwnI (w8.setCell ⟨qg, 0, none⟩ (.int .i64 z)) w3.heap.size wv ws := row_set hwv6 (fun k hk e => by have := hwlt k hk; omega)
        have HI9 : Hid (∀ j, I64 ((ws.set 0 z).getD j 0)) := fun j => getD_i64 (fun y hy => by rcases List.mem_or_eq_of_mem_set hy with h | h; exact HI.out y h; rw [h]; exact ⟨by omega, by omega⟩) j
        clear ho6 hos hwv6 K6
        go_wp2_with fail
        refine (l1Once_any w _ g 2 K9.1 (by omega) (by omega)).mono ?_
        rintro e wA ⟨b3, rfl, hc, hg⟩
        have hoA := ownI_g ho9 hg (by omega)
        have hwvA := ownI_g hwv9 hg (by omega)
        clear ho9 hwv9 hg
        cases b3 with
        | true =>
          have HE := HEND.out (ws.set 0 z) wA 102598060 374061196 hwvA hoA.rd HI9.out hc
          clear hoA hwvA hc
          go_wp2
          refine bodyPost_ret ?_ rfl HE
          simp [results, Tryd.results26, go_sem]
        | false =>
          go_wp2_with fail
          refine (l12DrawValue_any w _ g hc).mono ?_
          rintro e wB ⟨x, rfl, hx, K1⟩
          have hoB := ownI_g hoA K1.2.1 (by omega)
          have hwvB := ownI_g hwvA K1.2.1 (by omega)
          have hcB := K1.1
          clear hoA hwvA K1 hc
          go_wp2_with fail
          refine (l12DrawValue_any w _ g hcB).mono ?_
          rintro e wC ⟨o, rfl, ho, K1⟩
          have hoC := ownI_g hoB K1.2.1 (by omega)
          have hwvC := ownI_g hwvB K1.2.1 (by omega)
          have HE := HEND.out (ws.set 0 z) wC x o hwvC hoC.rd HI9.out K1.1
          clear hoC hwvC hoB hwvB K1 hcB
          go_wp2
          refine bodyPost_ret ?_ rfl HE
          simp [results, Tryd.results26, go_sem]
      · have hy0 : yn = 0 := by omega
        subst hy0
        go_wp2_with fail
        refine (l1Once_any w _ g 2 K6.1 (by omega) (by omega)).mono ?_
        rintro e wA ⟨b3, rfl, hc, hg⟩
        have hoA := ownI_g ho6 hg (by omega)
        have hwvA := ownI_g hwv6 hg (by omega)
        clear ho6 hwv6 hg
        cases b3 with
        | true =>
          have HE := HEND.out ws wA 102598060 374061196 hwvA hoA.rd HW.out hc
          clear hoA hwvA hc
          go_wp2
          refine bodyPost_ret ?_ rfl HE
          simp [results, Tryd.results26, go_sem]
        | false =>
          go_wp2_with fail
          refine (l12DrawValue_any w _ g hc).mono ?_
          rintro e wB ⟨x, rfl, hx, K1⟩
          have hoB := ownI_g hoA K1.2.1 (by omega)
          have hwvB := ownI_g hwvA K1.2.1 (by omega)
          have hcB := K1.1
          clear hoA hwvA K1 hc
          go_wp2_with fail
          refine (l12DrawValue_any w _ g hcB).mono ?_
          rintro e wC ⟨o, rfl, ho, K1⟩
          have hoC := ownI_g hoB K1.2.1 (by omega)
          have hwvC := ownI_g hwvB K1.2.1 (by omega)
          have HE := HEND.out ws wC x o hwvC hoC.rd HW.out K1.1
          clear hoC hwvC hoB hwvB K1 hcB
          go_wp2
          refine bodyPost_ret ?_ rfl HE
          simp [results, Tryd.results26, go_sem]
  | true =>
    go_wp2_with fail
    refine (l12DrawAt_any w _ g K.1).mono ?_
    rintro e w4 ⟨p, rfl, hp, K1⟩
    replace ho := ownL_g ho K1.2.1 K.2.2
    have hw4 := K1.2.1.size
    replace K := K.own K1.1 K1.2.1
    clear K1 hp
    go_wp2_with fail
    refine (specWay_any _ es (p) _ ho.rd).mono ?_
    rintro e w5 ⟨wv, rfl, hwv, hb5⟩
    have K5 := keepL_below K hb5
    have hw5 := hb5.size
    have HI : Hid (∀ y ∈ wayR es (p), I64 y) := wayR_i64 es (p)
    have hls : (wayR es (p)).length ≤ 8 := wayR_short es (p)
    generalize wayR es (p) = ws at hwv HI hls
    have HW : Hid (∀ j, I64 (ws.getD j 0)) := fun j => getD_i64 HI.out j
    have hgW : g < w4.heap.size := K.1.lt
    clear ho K hb5
    have hoi := (ownI_none w5)
    have hr5 := hwv.rd.below (below1 w5 (.cells #[] 2))
    replace K5 := keepL_below K5 (below1 w5 (.cells #[] 2))
    have hwv5 := OwnI.below hwv (below1 w5 (.cells #[] 2))
    go_wp2_with (at_builtin; (refine wpList_append_ints rfl _ _ rfl w5.heap.size _ _ [] ws rfl rfl hoi hr5 (by simp; omega) (by simp) ?_))
    intro vv w6 ho6 hg6
    have K6 : Keep w w1 g w6 := K5.step hg6 (fun k hk => by have : w5.heap.size = k := Option.some.inj hk; omega)
    have hwv6 : OwnI w6 w4.heap.size wv ws := row_kept hwv5 hg6 (fun k hk e => by have h1 := World.ownsRow.lt hwv k hk; have : w5.heap.size = k := Option.some.inj e; omega)
    have hw6 : w5.heap.size ≤ w6.heap.size := by have := hg6.size; simp at this; omega
    try rw [List.nil_append] at ho6
    have hwlt : ∀ k, wv.ownBlock = some k → k < w5.heap.size := fun k hk => (World.ownsRow.lt hwv k hk).2
    clear hoi hr5 K5 hwv5 hg6 hwv
    obtain ⟨ya, yc, rfl, hyc, hym, -⟩ := ho6.rd
    unfold maxLen at hym
    obtain ⟨yn, hyn⟩ : ∃ n, n = ws.length := ⟨_, rfl⟩
    have HYN : Hid (yn = ws.length) := hyn
    rw [← hyn] at ho6 hyc hls ⊢
    clear hyn
    go_wp2_with fail
    refine (l1Once_any w _ g 4 K6.1 (by omega) (by omega)).mono ?_
    rintro e w7 ⟨b2, rfl, hc, hg⟩
    replace K6 := K6.own hc hg
    replace ho6 := ownI_g ho6 hg (by omega)
    replace hwv6 := ownI_g hwv6 hg (by omega)
    clear hc hg
    have HEND : Hid (∀ (us : List Int) (W : World) (x o : Int), OwnI W w4.heap.size wv ws → RdI W (.slice ya yn yc) us → (∀ j, I64 (us.getD j 0)) → DCur w W g → PtdD w (.returned (.tuple #[.int .i64 (p), .int .i64 x, wv, .int .i64 o, .slice ya yn yc])) W) := fun us W x o h1 h2 h3 h4 => ⟨p, x, wv, ws, o, _, us, rfl, h1.rd, h2, HW.out, h3, h4.bel⟩
    cases b2 with
    | false =>
      go_wp2_with fail
      refine (l1Once_any w _ g 2 K6.1 (by omega) (by omega)).mono ?_
      rintro e wA ⟨b3, rfl, hc, hg⟩
      have hoA := ownI_g ho6 hg (by omega)
      have hwvA := ownI_g hwv6 hg (by omega)
      clear ho6 hwv6 hg
      cases b3 with
      | true =>
        have HE := HEND.out ws wA 102598060 374061196 hwvA hoA.rd HW.out hc
        clear hoA hwvA hc
        go_wp2
        refine bodyPost_ret ?_ rfl HE
        simp [results, Tryd.results26, go_sem]
      | false =>
        go_wp2_with fail
        refine (l12DrawValue_any w _ g hc).mono ?_
        rintro e wB ⟨x, rfl, hx, K1⟩
        have hoB := ownI_g hoA K1.2.1 (by omega)
        have hwvB := ownI_g hwvA K1.2.1 (by omega)
        have hcB := K1.1
        clear hoA hwvA K1 hc
        go_wp2_with fail
        refine (l12DrawValue_any w _ g hcB).mono ?_
        rintro e wC ⟨o, rfl, ho, K1⟩
        have hoC := ownI_g hoB K1.2.1 (by omega)
        have hwvC := ownI_g hwvB K1.2.1 (by omega)
        have HE := HEND.out ws wC x o hwvC hoC.rd HW.out K1.1
        clear hoC hwvC hoB hwvB K1 hcB
        go_wp2
        refine bodyPost_ret ?_ rfl HE
        simp [results, Tryd.results26, go_sem]
    | true =>
      by_cases hyp : 0 < yn
      · have hypI : (0 : Int) < (yn : Int) := by omega
        obtain ⟨qg, rfl⟩ := ownI_head ho6 hyp
        have hqg := (World.ownsRow.lt ho6 qg rfl).1
        go_wp2_with fail
        refine (l1Below_any w _ g 99 K6.1 (by omega) (by omega)).mono ?_
        rintro e w8 ⟨z, rfl, hz0, hz1, hc, hg⟩
        replace K6 := K6.own hc hg
        replace ho6 := ownI_g ho6 hg (by omega)
        replace hwv6 := ownI_g hwv6 hg (by omega)
        clear hc hg
        obtain ⟨cb, co, hce, d0⟩ := ho6.rd.at 0 (by have := HYN.out; omega)
        injection hce with hce
        injection hce with hc1 hc2 hc3
        subst hc1
        subst hc2
        have d1 : ∃ y : Int, w8.cell? ⟨qg, 0, none⟩ = some (.int .i64 y) := ⟨_, d0⟩
        obtain ⟨c0, d0⟩ := d1
        have hos := ho6
        unfold OwnI at hos
        rw [← HYN.out] at hos
        have f0 := World.ownsRow.frozenAt hos 0
        have ho9 : OwnI (w8.setCell ⟨qg, 0, none⟩ (.int .i64 z)) w5.heap.size (.slice (some ⟨qg, 0, none⟩) yn yc) (ws.set 0 z) := by
          have h := (hos.stored 0 (.int .i64 z)).1
          unfold OwnI
          rw [List.length_set, ← HYN.out, show IV (ws.set 0 z) = (IV ws).set 0 (.int .i64 z) by simp [IV, List.map_set]]
          exact h
        have K9 := keepL_set (b := qg) (j := 0) (u := .int .i64 z) K6 (by omega)
        have hwv9 : OwnI (w8.setCell ⟨qg, 0, none⟩ (.int .i64 z)) w4.heap.size wv ws := row_set hwv6 (fun k hk e => by have := hwlt k hk; omega)
        have HI9 : Hid (∀ j, I64 ((ws.set 0 z).getD j 0)) := fun j => getD_i64 (fun y hy => by rcases List.mem_or_eq_of_mem_set hy with h | h; exact HI.out y h; rw [h]; exact ⟨by omega, by omega⟩) j
        clear ho6 hos hwv6 K6
        go_wp2_with fail
        refine (l1Once_any w _ g 2 K9.1 (by omega) (by omega)).mono ?_
        rintro e wA ⟨b3, rfl, hc, hg⟩
        have hoA := ownI_g ho9 hg (by omega)
        have hwvA := ownI_g hwv9 hg (by omega)
        clear ho9 hwv9 hg
        cases b3 with
        | true =>
          have HE := HEND.out (ws.set 0 z) wA 102598060 374061196 hwvA hoA.rd HI9.out hc
          clear hoA hwvA hc
          go_wp2
          refine bodyPost_ret ?_ rfl HE
          simp [results, Tryd.results26, go_sem]
        | false =>
          go_wp2_with fail
          refine (l12DrawValue_any w _ g hc).mono ?_
          rintro e wB ⟨x, rfl, hx, K1⟩
          have hoB := ownI_g hoA K1.2.1 (by omega)
          have hwvB := ownI_g hwvA K1.2.1 (by omega)
          have hcB := K1.1
          clear hoA hwvA K1 hc
          go_wp2_with fail
          refine (l12DrawValue_any w _ g hcB).mono ?_
          rintro e wC ⟨o, rfl, ho, K1⟩
          have hoC := ownI_g hoB K1.2.1 (by omega)
          have hwvC := ownI_g hwvB K1.2.1 (by omega)
          have HE := HEND.out (ws.set 0 z) wC x o hwvC hoC.rd HI9.out K1.1
          clear hoC hwvC hoB hwvB K1 hcB
          go_wp2
          refine bodyPost_ret ?_ rfl HE
          simp [results, Tryd.results26, go_sem]
      · have hy0 : yn = 0 := by omega
        subst hy0
        go_wp2_with fail
        refine (l1Once_any w _ g 2 K6.1 (by omega) (by omega)).mono ?_
        rintro e wA ⟨b3, rfl, hc, hg⟩
        have hoA := ownI_g ho6 hg (by omega)
        have hwvA := ownI_g hwv6 hg (by omega)
        clear ho6 hwv6 hg
        cases b3 with
        | true =>
          have HE := HEND.out ws wA 102598060 374061196 hwvA hoA.rd HW.out hc
          clear hoA hwvA hc
          go_wp2
          refine bodyPost_ret ?_ rfl HE
          simp [results, Tryd.results26, go_sem]
        | false =>
          go_wp2_with fail
          refine (l12DrawValue_any w _ g hc).mono ?_
          rintro e wB ⟨x, rfl, hx, K1⟩
          have hoB := ownI_g hoA K1.2.1 (by omega)
          have hwvB := ownI_g hwvA K1.2.1 (by omega)
          have hcB := K1.1
          clear hoA hwvA K1 hc
          go_wp2_with fail
          refine (l12DrawValue_any w _ g hcB).mono ?_
          rintro e wC ⟨o, rfl, ho, K1⟩
          have hoC := ownI_g hoB K1.2.1 (by omega)
          have hwvC := ownI_g hwvB K1.2.1 (by omega)
          have HE := HEND.out ws wC x o hwvC hoC.rd HW.out K1.1
          clear hoC hwvC hoB hwvB K1 hcB
          go_wp2
          refine bodyPost_ret ?_ rfl HE
          simp [results, Tryd.results26, go_sem]
end Go.Proofs.YtmfopbkhlekhkaaDoor
