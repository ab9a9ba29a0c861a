/- The contract of the program's withNext. -/
import Derived.Test.YtpidmmfjmbinkaaGreatDoorSltSw
import Derived.Test.YtpidmmfjmbinkaaGreatDoorG27
-- UNF Gen
namespace Go.Proofs.YtpidmmfjmbinkaaGreatDoor
open Go.RowKit
theorem own_put {w : World} {B b : Nat} {Y : DvX} (h : OwnDv w B Y) (hb : b < B) (u0 u1 : Value) : OwnDv ((w.setCell ⟨b, 0, none⟩ u0).setCell ⟨b, 1, none⟩ u1) B Y :=
  h.touch (bs := [b]) ((Touch.set (List.mem_singleton.2 rfl)).trans (Touch.set (List.mem_singleton.2 rfl))) (fun k hk e => by
    have h1 := (h.bound hk).1
    rw [List.mem_singleton] at e
    omega)
def freeV (n : Nat) (R : Int × Int × ByteArray) : Int := if n < 2 then 1 else if R.1 = -1 then 0 else 1 - R.1
theorem free_any (n : Nat) (R : Int × Int × ByteArray) (a b : Addr) (w : World) (he : SEnv3 w a b) (hr : R.1 = -1 ∨ R.1 = 0 ∨ R.1 = 1) :
    Calls Tryz.prog 54 #[rootS R, rootE n R a b] w fun e w' => e = .returned (.int .i64 (freeV n R)) ∧ Below w.heap.size w w' := by
  unfold rootE freeV rootS
  by_cases hn : n < 2
  · rw [if_pos hn, if_pos hn]
    exact free_sec _ _ _ 1 b a b w he
  · rw [if_neg hn, if_neg hn]
    by_cases h1 : R.1 = -1
    · rw [if_pos h1, if_pos h1, if_pos h1]
      exact free_sec _ _ _ 0 a a b w he
    · rw [if_neg h1, if_neg h1, if_neg h1]
      exact free_nil _ _ _ w (by omega)
theorem freeV_in (n : Nat) (R : Int × Int × ByteArray) (hr : R.1 = -1 ∨ R.1 = 0 ∨ R.1 = 1) : (0 ≤ freeV n R ∧ freeV n R ≤ 1) ∧ (¬ 2 ≤ n → freeV n R = 1) ∧ (2 ≤ n → freeV n R = nextTo R) := by
  unfold freeV nextTo
  refine ⟨?_, fun h => ?_, fun h => ?_⟩
  · split
    · omega
    · split <;> omega
  · rw [if_pos (by omega)]
  · rw [if_neg (by omega)]
    split
    · rename_i h1
      rw [if_neg (by omega)]
    · rcases hr with h1 | h1 | h1
      · exact absurd h1 (by assumption)
      · rw [if_pos h1, h1]; rfl
      · rw [if_neg (by omega), h1]; rfl
set_option maxHeartbeats 8000000 in
set_option maxRecDepth 100000 in
theorem withNext_any (sa la : Option Addr) (cs cl : Nat) (ss : List ByteArray) (ps : List Pat) (t : ByteArray) (r0 r1 : Option (Int × ByteArray)) (a b : Addr) (w : World) (hx : RdDv w (dvOf sa la cs cl ss ps)) (ht : t.size ≤ 1099511627776) (h0 : RS (liesL ss ps 0) r0) (h1 : RS (liesL ss ps 1) r1) (he : SEnv3 w a b) :
    Calls Tryz.prog 27 #[.agg #[.slice sa ss.length cs, .slice la ps.length cl], .string t] w fun e w' => NextP w ss ps (rootD ss ps r0 r1) t e w' := by
  have HL : Hid (∀ W, RdDv W (dvOf sa la cs cl ss ps) → SEnv2 W a b → Calls Tryz.prog 31 #[.agg #[.slice sa ss.length cs, .slice la ps.length cl]] W fun e w' => RootP W ss.length (rootD ss ps r0 r1) a b e w') := fun W h h2 => root_any sa la cs cl ss ps r0 r1 a b W h h0 h1 h2
  have hin := rootD_in ss ps r0 r1
  have hgn := rootD_gen h0 h1
  generalize rootD ss ps r0 r1 = R at HL hin hgn ⊢
  have HFR : Hid (∀ W, SEnv3 W a b → Calls Tryz.prog 54 #[rootS R, rootE ss.length R a b] W fun e w' => e = .returned (.int .i64 (freeV ss.length R)) ∧ Below W.heap.size W w') := fun W h => free_any ss.length R a b W h hin
  have HFV : Hid ((0 ≤ freeV ss.length R ∧ freeV ss.length R ≤ 1) ∧ (¬ 2 ≤ ss.length → freeV ss.length R = 1) ∧ (2 ≤ ss.length → freeV ss.length R = nextTo R)) := freeV_in ss.length R hin
  obtain ⟨x, y, z⟩ := R
  simp only at hgn
  obtain ⟨g0, g1⟩ := hgn
  unfold rootS at HFR
  unfold RootP rootS at HL
  generalize rootE ss.length (x, y, z) a b = E at HL HFR
  generalize freeV ss.length (x, y, z) = fv at HFR HFV
  generalize (if ((x, y, z) : Int × Int × ByteArray).1 = -1 then 0 else ((x, y, z) : Int × Int × ByteArray).1) = q at HL HFR
  simp only at HL HFR
  have hsz := slotS_size (y + 1) t
  have hem := slotS_empty (g := y + 1) (t := t)
  have HNB : Hid (nextB ss ps (x, y, z) t = (twoOk ss ps && slotOk (y + 1) t)) := rfl
  have HLB : Hid (layO (barS ss ps) [] fv (slotS (y + 1) t) = twoOk ss ps ∧ (twoOk ss ps = true → layS (barS ss ps) [] = barS ss ps ∧ layL (barS ss ps) [] fv (slotS (y + 1) t) = [⟨fv, slotS (y + 1) t⟩])) := lay_bar hsz HFV.out.1 HFV.out.2.1
  have HTO : Hid (twoOk ss ps = true → fv = nextTo (x, y, z)) := fun h => HFV.out.2.2 (two_iff.1 h).2
  clear hin h0 h1 HFV
  have B0 : Bx (w.alloc (.cells #[.slice sa ss.length cs, .slice la ps.length cl] 27)) _ := (bx_nil w).new hx 27
  have b0 := below1 w (.cells #[.slice sa ss.length cs, .slice la ps.length cl] 27)
  have s0 : (w.alloc (.cells #[.slice sa ss.length cs, .slice la ps.length cl] 27)).heap.size = w.heap.size + 1 := by simp
  have b1 := below1 (w.alloc (.cells #[.slice sa ss.length cs, .slice la ps.length cl] 27)) (.cells #[.slice none 0 0, .slice none 0 0] 27)
  have B1 := B0.below b1
  have x1 := boxDv_new (w.alloc (.cells #[.slice sa ss.length cs, .slice la ps.length cl] 27)) (.slice none 0 0) (.slice none 0 0)
  rw [s0] at x1
  replace b1 := b0.trans (b1.mono b0.size)
  have e1 := he.on b1
  clear B0 b0 s0 he
  obtain ⟨c0, c1⟩ := B1.at _ sa la cs cl ss ps (.head _)
  go_enter Tryz.func27, Tryz.ntmps27
  go_wp2_with fail
  clear c0 c1
  generalize (w.alloc (.cells #[.slice sa ss.length cs, .slice la ps.length cl] 27)).alloc (.cells #[.slice none 0 0, .slice none 0 0] 27) = W1 at B1 b1 x1 e1 ⊢
  refine (HL.out _ (B1.rd _ _ _ _ _ _ _ (.head _)) e1.two).mono ?_
  rintro e w2 ⟨rfl, b2⟩
  have bl := below1 w2 (.cells #[.int .i64 y, .string z, .int .i64 q] 57)
  have y3 := boxS_new w2 (.int .i64 y) (.string z) (.int .i64 q)
  have B3 := (B1.below b2).below bl
  have x3 := (x1.below b2).below bl
  have e3 := (e1.on b2).on bl
  replace b2 := b1.trans (b2.mono b1.size)
  have b3 := b2.trans (bl.mono b2.size)
  clear B1 b1 x1 e1 b2 bl HL
  obtain ⟨f0, f1, f2, -, -, -⟩ := y3.facts
  go_wp2_with fail
  clear f0 f1 f2
  generalize w2.alloc (.cells #[.int .i64 y, .string z, .int .i64 q] 57) = W3 at y3 B3 x3 e3 b3 ⊢
  refine (implSlot_any (y + 1) t _ ht e3.two.env.tab).mono ?_
  obtain ⟨N, hN⟩ : ∃ N, N = slotS (y + 1) t := ⟨_, rfl⟩
  rw [← hN] at hsz hem HLB ⊢
  have HSN : Hid (slotS (((x, y, z) : Int × Int × ByteArray).2.1 + 1) t = N) := hN.symm
  clear hN
  rintro e w4 ⟨rfl, b4⟩
  have y5 := y3.below b4
  have B5 := B3.below b4
  have x5 := x3.below b4
  have e5 := e3.on b4
  have b5 := b3.trans (b4.mono b3.size)
  clear y3 B3 x3 e3 b3 b4
  obtain ⟨ok, hok⟩ : ∃ ok, ok = slotOk (y + 1) t := ⟨_, rfl⟩
  rw [← hok] at hem
  have HOK : Hid (ok = slotOk (y + 1) t) := hok
  clear hok
  cases ok with
  | false =>
    have HN : Hid (nextB ss ps (x, y, z) t = false) := by unfold Hid; rw [HNB.out, ← HOK.out]; simp
    obtain ⟨f0, f1, f2, f3⟩ := x5.facts
    have zz := (x5.set0 (u := .slice none 0 0)).set1 (u := .slice none 0 0)
    obtain ⟨k0, k1, -, -⟩ := zz.facts
    have HF : Hid (NextP w ss ps (x, y, z) t (.returned (.tuple #[.agg #[.slice none 0 0, .slice none 0 0], .bool false])) ((w4.setCell ⟨w.heap.size + 1, 0, none⟩ (.slice none 0 0)).setCell ⟨w.heap.size + 1, 1, none⟩ (.slice none 0 0))) := by
      refine ⟨⟨.slice none 0 0, .slice none 0 0, [], []⟩, by rw [HN.out], ownDv_zero _ _, fun h => (by rw [HN.out] at h; cases h), (b5.setCell (p := ⟨w.heap.size + 1, 0, none⟩) (by simp) _).setCell (p := ⟨w.heap.size + 1, 1, none⟩) (by simp) _⟩
    clear zz x5 y5 B5 e5 b5 HFR
    go_wp2
    exact bodyPost_ret (v := .tuple #[.agg #[.slice none 0 0, .slice none 0 0], .bool false]) (by simp [results, Tryz.results27, go_sem, k0, k1]) rfl HF.out
  | true =>
    have HN : Hid (nextB ss ps (x, y, z) t = twoOk ss ps) := by unfold Hid; rw [HNB.out, ← HOK.out]; simp
    go_wp2_with fail
    refine wp_region_noPanic ?_
    refine wp_region_held_drew (S := fun W => (W.cell? ⟨w.heap.size, 0, none⟩ = some (.slice sa ss.length cs) ∧ W.cell? ⟨w.heap.size, 1, none⟩ = some (.slice la ps.length cl)) ∧ W.cell? ⟨w2.heap.size, 0, none⟩ = some (.int .i64 y) ∧ W.cell? ⟨w2.heap.size, 1, none⟩ = some (.string z) ∧ W.cell? ⟨w2.heap.size, 2, none⟩ = some (.int .i64 q)) (by kernel_rfl) ⟨B5.at _ sa la cs cl ss ps (.head _), y5.facts.1, y5.facts.2.1, y5.facts.2.2.1⟩ (fun hH => ?_)
    have dr := (Below.refl w4.heap.size w4).drew
    replace B5 := B5.below dr
    replace y5 := y5.below dr
    replace x5 := x5.below dr
    replace e5 := e5.on dr
    replace b5 := b5.trans (dr.mono b5.size)
    clear dr
    revert hH B5 y5 x5 e5 b5
    generalize w4.drew = V0
    intro hH B5 y5 x5 e5 b5
    refine tkG 0 22 hH ?_
    try simp only [Act.put, List.setIfInBounds_toArray, List.set_cons_zero, List.set_cons_succ]
    refine tkG 2 24 hH ?_
    try simp only [Act.put, List.setIfInBounds_toArray, List.set_cons_zero, List.set_cons_succ]
    refine tkG 3 25 hH ?_
    try simp only [Act.put, List.setIfInBounds_toArray, List.set_cons_zero, List.set_cons_succ]
    refine tkG 5 27 hH ?_
    try simp only [Act.put, List.setIfInBounds_toArray, List.set_cons_zero, List.set_cons_succ]
    refine wpAnyH_ready (rs := [1]) (by kernel_rfl) (by simp) ?_
    refine AllReadyH.cons rfl (fun K hK => ?_) AllReadyH.nil
    go_simp
    refine (implBarrier_any (dvOf sa la cs cl ss ps) _ (B5.rd _ _ _ _ _ _ _ (.head _))).mono ?_
    rintro e V1 hc
    replace hc : ToDv V0 (barS ss ps) [] e V1 := hc
    obtain ⟨ba, bla, bc, bk, rfl, hbar, hb⟩ := hc.op
    replace B5 := B5.below hb
    replace y5 := y5.below hb
    replace x5 := x5.below hb
    replace e5 := e5.on hb
    replace b5 := b5.trans (hb.mono b5.size)
    refine hK.out _ _ ⟨B5.at _ sa la cs cl ss ps (.head _), y5.facts.1, y5.facts.2.1, y5.facts.2.2.1⟩ (fun hG => ?_)
    clear hK K
    try simp only [Act.put, List.setIfInBounds_toArray, List.set_cons_zero, List.set_cons_succ]
    clear hb hH hc
    have hH := hG
    clear hG
    refine wpAnyH_ready (rs := [4]) (by kernel_rfl) (by simp) ?_
    refine AllReadyH.cons rfl (fun K hK => ?_) AllReadyH.nil
    go_simp
    refine (HFR.out _ e5).mono ?_
    rintro e V2 ⟨rfl, hb⟩
    replace B5 := B5.below hb
    replace y5 := y5.below hb
    replace x5 := x5.below hb
    replace b5 := b5.trans (hb.mono b5.size)
    replace hbar := hbar.below hb
    refine hK.out _ _ ⟨B5.at _ sa la cs cl ss ps (.head _), y5.facts.1, y5.facts.2.1, y5.facts.2.2.1⟩ (fun hG => ?_)
    clear hK K
    try simp only [Act.put, List.setIfInBounds_toArray, List.set_cons_zero, List.set_cons_succ]
    clear hb hH
    have hH := hG
    clear hG
    refine wpAnyH_ready (rs := [6]) (by kernel_rfl) (by simp) ?_
    refine AllReadyH.cons rfl (fun K hK => ?_) AllReadyH.nil
    go_simp
    refine (implLay_any (dvOf ba bla bc bk (barS ss ps) []) fv N _ hbar).mono ?_
    rintro e V3 hc
    obtain ⟨Y, hee, hYs, hYl, hoY, hb⟩ := hc
    replace hee : e = .returned (.tuple #[.agg #[Y.vs, Y.vl], .bool (twoOk ss ps)]) := by rw [hee]; exact congrArg (fun o => Ending.returned (.tuple #[.agg #[Y.vs, Y.vl], .bool o])) HLB.out.1
    have HLT : Hid (w.heap.size + 1 < V2.heap.size ∧ w.heap.size ≤ V2.heap.size) := ⟨x5.lt, b5.size⟩
    have HY : Hid (OwnDv V3 V2.heap.size Y ∧ (twoOk ss ps = true → Y.secs = barS ss ps ∧ Y.late = [⟨nextTo (x, y, z), N⟩])) := by
      refine ⟨hoY, fun h => ?_⟩
      obtain ⟨l1, l2⟩ := HLB.out.2 h
      exact ⟨hYs.trans l1, by rw [hYl, ← HTO.out h]; exact l2⟩
    obtain ⟨ya, ycs, v0⟩ := own_slice hoY.secs
    obtain ⟨yla, ycl, v1⟩ := own_slice hoY.late
    obtain ⟨yvs, yvl, ysec, ylat⟩ := Y
    simp only at v0 v1 hYs hYl
    generalize ysec.length = yn at v0
    generalize ylat.length = ym at v1
    subst v0
    subst v1
    replace hee : e = .returned (.tuple #[.agg #[.slice ya yn ycs, .slice yla ym ycl], .bool (twoOk ss ps)]) := hee
    subst hee
    replace B5 := B5.below hb
    replace y5 := y5.below hb
    replace x5 := x5.below hb
    replace b5 := b5.trans (hb.mono b5.size)
    clear hYs hYl hoY
    refine hK.out _ _ ⟨B5.at _ sa la cs cl ss ps (.head _), y5.facts.1, y5.facts.2.1, y5.facts.2.2.1⟩ (fun hG => ?_)
    clear hK K
    try simp only [Act.put, List.setIfInBounds_toArray, List.set_cons_zero, List.set_cons_succ]
    clear hb hH hbar
    have hH := hG
    clear hG
    refine tkG 7 29 hH ?_
    try simp only [Act.put, List.setIfInBounds_toArray, List.set_cons_zero, List.set_cons_succ]
    refine tkG 8 30 hH ?_
    try simp only [Act.put, List.setIfInBounds_toArray, List.set_cons_zero, List.set_cons_succ]
    obtain ⟨f0, f1, f2, f3⟩ := x5.facts
    have zz := (x5.set0 (u := .slice ya yn ycs)).set1 (u := .slice yla ym ycl)
    obtain ⟨k0, k1, -, -⟩ := zz.facts
    have hne2 : w.heap.size + 1 ≠ w2.heap.size := fun e => by
      have h1 : V3.heap[w.heap.size + 1]? = some (.cells #[.slice none 0 0, .slice none 0 0] 27 (0, 0)) := x5
      have h2 : V3.heap[w2.heap.size]? = some (.cells #[.int .i64 y, .string z, .int .i64 q] 57 (0, 0)) := y5
      rw [← e, h1] at h2
      simp at h2
    have y6 : BoxS ((V3.setCell ⟨w.heap.size + 1, 0, none⟩ (.slice ya yn ycs)).setCell ⟨w.heap.size + 1, 1, none⟩ (.slice yla ym ycl)) w2.heap.size (.int .i64 y) (.string z) (.int .i64 q) := ((block_set hne2).trans (block_set hne2)).trans y5
    have d6 : DvAt ((V3.setCell ⟨w.heap.size + 1, 0, none⟩ (.slice ya yn ycs)).setCell ⟨w.heap.size + 1, 1, none⟩ (.slice yla ym ycl)) w.heap.size (dvOf sa la cs cl ss ps) := (B5 _ (.head _)).1.of_block ((block_set (by omega)).trans (block_set (by omega)))
    have HB6 : Hid (NextP w ss ps (x, y, z) t (.returned (.tuple #[.agg #[.slice ya yn ycs, .slice yla ym ycl], .bool (twoOk ss ps)])) ((V3.setCell ⟨w.heap.size + 1, 0, none⟩ (.slice ya yn ycs)).setCell ⟨w.heap.size + 1, 1, none⟩ (.slice yla ym ycl))) := by
      refine ⟨⟨.slice ya yn ycs, .slice yla ym ycl, ysec, ylat⟩, by rw [HN.out], (own_put HY.out.1 HLT.out.1 _ _).mono HLT.out.2, fun h => ?_, (b5.setCell (p := ⟨w.heap.size + 1, 0, none⟩) (by simp) _).setCell (p := ⟨w.heap.size + 1, 1, none⟩) (by simp) _⟩
      rw [HN.out] at h
      obtain ⟨q1, q2⟩ := HY.out.2 h
      exact ⟨q1, by rw [HSN.out]; exact q2⟩
    clear zz B5 y5
    refine wpAnyH_ready (rs := [9]) (by kernel_rfl) (by simp) ?_
    refine AllReadyH.cons rfl (fun K hK => ?_) AllReadyH.nil
    go_simp
    refine hK.out _ _ ⟨d6, y6.facts.1, y6.facts.2.1, y6.facts.2.2.1⟩ (fun hG => ?_)
    clear hK K
    try simp only [Act.put, List.setIfInBounds_toArray, List.set_cons_zero, List.set_cons_succ]
    clear hH
    have hH := hG
    clear hG
    refine tkG 10 5 hH ?_
    try simp only [Act.put, List.setIfInBounds_toArray, List.set_cons_zero, List.set_cons_succ]
    refine wpAnyH_done (by kernel_rfl) ?_ _
    refine NoPanic.normal ?_
    go_wp2
    exact bodyPost_ret (v := .tuple #[.agg #[.slice ya yn ycs, .slice yla ym ycl], .bool (twoOk ss ps)]) (by simp [results, Tryz.results27, go_sem, k0, k1]) rfl HB6.out
end Go.Proofs.YtpidmmfjmbinkaaGreatDoor
