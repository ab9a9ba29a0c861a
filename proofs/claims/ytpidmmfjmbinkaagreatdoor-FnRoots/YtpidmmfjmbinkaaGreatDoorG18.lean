/- The contracts of the program's slotOf and ReadSlot. Devices by their two slices, and boxes of them. -/
import Derived.Test.YtpidmmfjmbinkaaGreatDoorG17
import Derived.Test.YtpidmmfjmbinkaaGreatDoorGen
import Derived.Test.YtpidmmfjmbinkaaGreatDoorG05
namespace Go.Proofs.YtpidmmfjmbinkaaGreatDoor
open Go.RowKit
/-- What the package-level variables hold that slots are read by: the library's powers of ten, its two errors, the program's own one. -/
structure SEnv (w : World) (a : Addr) : Prop where
  tab : Tab w
  syn : ∃ te pe, w.cell? ⟨5, 0, none⟩ = some (.iface te pe)
  rng : ∃ te pe, w.cell? ⟨6, 0, none⟩ = some (.iface te pe)
  slot : w.cell? ⟨0, 0, none⟩ = some (.iface 174 (.pointer (some a)))
theorem SEnv.on {w w' : World} {a : Addr} (h : SEnv w a) (hb : Below w.heap.size w w') : SEnv w' a := by
  refine ⟨h.tab.on hb, ?_, ?_, ?_⟩
  · obtain ⟨te, pe, e⟩ := h.syn
    exact ⟨te, pe, (hb.cell (World.block_lt_of_cell? w _ e)).trans e⟩
  · obtain ⟨te, pe, e⟩ := h.rng
    exact ⟨te, pe, (hb.cell (World.block_lt_of_cell? w _ e)).trans e⟩
  · exact (hb.cell (World.block_lt_of_cell? w _ h.slot)).trans h.slot
theorem drewN_below (w : World) (n : Nat) : Below w.heap.size w (w.drewN n) := below_drewN (Below.refl _ _) n
/-- The program's own struct in a box. -/
def BoxS (w : World) (b : Nat) (u0 u1 u2 : Value) : Prop := w.heap[b]? = some (.cells #[u0, u1, u2] 57 (0, 0))
theorem BoxS.lt {w : World} {b : Nat} {u0 u1 u2 : Value} (h : BoxS w b u0 u1 u2) : b < w.heap.size := (Array.getElem?_eq_some_iff.1 h).1
theorem BoxS.below {w w' : World} {b : Nat} {u0 u1 u2 : Value} (h : BoxS w b u0 u1 u2) (hb : Below w.heap.size w w') : BoxS w' b u0 u1 u2 := (hb.block b h.lt).trans h
theorem BoxS.facts {w : World} {b : Nat} {u0 u1 u2 : Value} (h : BoxS w b u0 u1 u2) : w.cell? ⟨b, 0, none⟩ = some u0 ∧ w.cell? ⟨b, 1, none⟩ = some u1 ∧ w.cell? ⟨b, 2, none⟩ = some u2 ∧ w.frozen? ⟨b, 0, none⟩ = false ∧ w.frozen? ⟨b, 1, none⟩ = false ∧ w.frozen? ⟨b, 2, none⟩ = false := by
  unfold BoxS at h
  refine ⟨?_, ?_, ?_, ?_, ?_, ?_⟩ <;> simp [World.cell?, World.frozen?, h]
theorem boxS_new (w : World) (u0 u1 u2 : Value) : BoxS (w.alloc (.cells #[u0, u1, u2] 57)) w.heap.size u0 u1 u2 := heap_alloc_new w _
theorem BoxS.put {w : World} {b : Nat} {u0 u1 u2 : Value} (h : BoxS w b u0 u1 u2) (v0 v1 v2 : Value) : BoxS (((w.setCell ⟨b, 0, none⟩ v0).setCell ⟨b, 1, none⟩ v1).setCell ⟨b, 2, none⟩ v2) b v0 v1 v2 := by
  unfold BoxS at h ⊢
  have h1 := heap_setCell_same w b 0 _ _ v0 h
  have h2 := heap_setCell_same _ b 1 _ _ v1 h1
  exact heap_setCell_same _ b 2 _ _ v2 h2
theorem put_below {a w : World} {B b : Nat} (h : Below B a w) (hb : B ≤ b) (v0 v1 v2 : Value) : Below B a (((w.setCell ⟨b, 0, none⟩ v0).setCell ⟨b, 1, none⟩ v1).setCell ⟨b, 2, none⟩ v2) :=
  ((h.setCell (p := ⟨b, 0, none⟩) hb v0).setCell (p := ⟨b, 1, none⟩) hb v1).setCell (p := ⟨b, 2, none⟩) hb v2
theorem parsed_below {w w' : World} (h : w' = w ∨ ∃ t, w' = Lib.bytesWorld w 5 t) : Below w.heap.size w w' := by
  rcases h with rfl | ⟨t, rfl⟩
  · exact Below.refl _ _
  · exact Lib.bytesWorld_below _ _ _
set_option maxHeartbeats 4000000 in
set_option maxRecDepth 100000 in
theorem slotOf_yes (g : Int) (t : ByteArray) (a : Addr) (w : World) (h : 1 ≤ g ∧ g ≤ 1000000 ∧ t.size ≤ 300) (he : SEnv w a) :
    Calls Tryz.prog 35 #[.string (slotT g t)] w fun e w' => e = .returned (.tuple #[.agg #[.int .i64 g, .string t, .int .i64 0], .nilIface]) ∧ Below w.heap.size w w' := by
  have hsz := slot_size h
  have hls := slotT_list g t
  obtain ⟨s, hs⟩ : ∃ s, s = slotT g t := ⟨_, rfl⟩
  rw [← hs] at hsz hls ⊢
  have HS : Hid (slotS g t = s) := by unfold Hid; rw [slotS_yes h, hs]
  obtain ⟨d, hd⟩ : ∃ d, d = itoaS (dig 1 t.data.toList : Int) := ⟨_, rfl⟩
  have hdb : (32 : UInt8) ∉ d.data.toList := by rw [hd]; exact itoa_noBlank _ (by omega)
  have hgb : (32 : UInt8) ∉ (itoaS g).data.toList := itoa_noBlank _ (by omega)
  have HP : Hid (Lib.parseIntB 64 (itoaS g).data.toList = .ok g) := parse_itoa g (by omega) (by omega)
  rw [← hd] at hls
  have hgs := itoaS_size g (by omega) (by omega)
  clear hd hs
  have HLS : Hid (s.data.toList = (itoaS g).data.toList ++ 32 :: (d.data.toList ++ 32 :: t.data.toList)) := hls
  have b0 := below1 w (.cells #[.int .i64 0, .string ⟨#[]⟩, .int .i64 0] 57)
  have he0 := he.on b0
  have bx0 := boxS_new w (.int .i64 0) (.string ⟨#[]⟩) (.int .i64 0)
  clear hls he
  go_enter Tryz.func35, Tryz.ntmps35
  go_wp2_with fail
  generalize w.alloc (.cells #[.int .i64 0, .string ⟨#[]⟩, .int .i64 0] 57) = W0 at he0 bx0 b0 ⊢
  refine (cut_any s _ (by omega)).mono ?_
  rintro e w1 ⟨⟨x1, r1, f1, rfl, z1, z2, z3⟩, n1, rfl⟩
  obtain ⟨y1, y2⟩ := z3 _ _ HLS.out hgb
  have y1 : x1 = itoaS g := y1.trans (ba_mk _ _ rfl)
  have hr1 : r1.data.toList = d.data.toList ++ 32 :: t.data.toList := by rw [y2]
  have b1 := drewN_below W0 n1
  have he1 := he0.on b1
  have bx1 := bx0.below b1
  replace b1 := b0.trans (b1.mono b0.size)
  subst y1
  clear y2 z3 z1 he0 bx0 b0
  generalize W0.drewN n1 = W1 at he1 bx1 b1 ⊢
  go_wp2_with fail
  refine (cut_any r1 _ (by omega)).mono ?_
  rintro e w2 ⟨⟨x2, r2, f2, rfl, z1, z4, z3⟩, n2, rfl⟩
  obtain ⟨y1, y2⟩ := z3 _ _ hr1 hdb
  obtain rfl : r2 = t := y2.trans (ba_mk _ _ rfl)
  clear y1 y2 z3 z1 z4 hr1 z2
  have b2 := drewN_below W1 n2
  have he2 := he1.on b2
  have bx2 := bx1.below b2
  replace b2 := b1.trans (b2.mono b1.size)
  clear he1 bx1 b1
  generalize W1.drewN n2 = W2 at he2 bx2 b2 ⊢
  go_wp2_with fail
  refine (Tryz.strconv_ParseInt_10_at64_ok (itoaS g) (by omega) g HP.out _).mono ?_
  rintro e w3 ⟨rfl, hw3⟩
  have b3 := parsed_below hw3
  have he3 := he2.on b3
  have bx := bx2.below b3
  have bw := b2.trans (b3.mono b2.size)
  clear b2 b3 he2 hw3 bx2
  go_wp2_with fail
  refine (implSlot_any g r2 _ (by omega) he3.tab).mono ?_
  rw [HS.out]
  rintro e w4 ⟨rfl, b4⟩
  have bx4 := bx.below b4
  have bw4 := bw.trans (b4.mono bw.size)
  obtain ⟨f0, f1, f2, f3, f4, f5⟩ := bx4.facts
  have z := bx4.put (.int .i64 g) (.string r2) (.int .i64 0)
  obtain ⟨k0, k1, k2, -, -, -⟩ := z.facts
  have HF : Hid (Below w.heap.size w (((w4.setCell ⟨w.heap.size, 0, none⟩ (.int .i64 g)).setCell ⟨w.heap.size, 1, none⟩ (.string r2)).setCell ⟨w.heap.size, 2, none⟩ (.int .i64 0))) := put_below bw4 (Nat.le_refl _) _ _ _
  clear b4 bx bw bx4 bw4 z he3
  go_wp2
  exact bodyPost_ret (v := .tuple #[.agg #[.int .i64 g, .string r2, .int .i64 0], .nilIface]) (by simp [results, Tryz.results35, go_sem, k0, k1, k2]) rfl ⟨rfl, HF.out⟩
set_option maxHeartbeats 4000000 in
set_option maxRecDepth 100000 in
theorem slotOf_no (s : ByteArray) (a : Addr) (w : World) (hs : s.size ≤ 1048576) (h : RS s none) (he : SEnv w a) :
    Calls Tryz.prog 35 #[.string s] w fun e w' => e = .returned (.tuple #[.agg #[.int .i64 0, .string ⟨#[]⟩, .int .i64 0], .iface 174 (.pointer (some a))]) ∧ Below w.heap.size w w' := by
  have HN : Hid (RS s none) := h
  have HG : Hid ((0 : Nat) < w.heap.size) := World.block_lt_of_cell? w _ he.slot
  clear h
  have b0 := below1 w (.cells #[.int .i64 0, .string ⟨#[]⟩, .int .i64 0] 57)
  have he0 := he.on b0
  have bx0 := boxS_new w (.int .i64 0) (.string ⟨#[]⟩) (.int .i64 0)
  clear he
  go_enter Tryz.func35, Tryz.ntmps35
  go_wp2_with fail
  generalize w.alloc (.cells #[.int .i64 0, .string ⟨#[]⟩, .int .i64 0] 57) = W0 at he0 bx0 b0 ⊢
  refine (cut_any s _ (by omega)).mono ?_
  rintro e w1 ⟨⟨x1, r1, f1, rfl, z1, z2, z3⟩, n1, rfl⟩
  have b1 := drewN_below W0 n1
  have he1 := he0.on b1
  have bx1 := bx0.below b1
  replace b1 := b0.trans (b1.mono b0.size)
  clear z3 he0 bx0 b0
  generalize W0.drewN n1 = W1 at he1 bx1 b1 ⊢
  go_wp2_with fail
  refine (cut_any r1 _ (by omega)).mono ?_
  rintro e w2 ⟨⟨x2, r2, f2, rfl, z4, z5, z3⟩, n2, rfl⟩
  clear z3
  have b2 := drewN_below W1 n2
  have he2 := he1.on b2
  have bx := bx1.below b2
  have bw := b1.trans (b2.mono b1.size)
  clear he1 bx1 b1 b2
  generalize W1.drewN n2 = W2 at he2 bx bw ⊢
  go_wp2_with fail
  cases hp : Lib.parseIntB 64 x1.data.toList with
  | ok v =>
    have hx : 0 < x1.size := by
      rcases Nat.eq_zero_or_pos x1.size with h0 | h0
      · have : x1.data.toList = [] := List.length_eq_zero_iff.1 (by rw [size_length]; exact h0)
        rw [this] at hp
        cases hp
      · exact h0
    refine (Tryz.strconv_ParseInt_10_at64_ok x1 (by omega) v hp _).mono ?_
    rintro e w3 ⟨rfl, hw3⟩
    clear hp
    have b3 := parsed_below hw3
    have he3 := he2.on b3
    have bx3 := bx.below b3
    have bw3 := bw.trans (b3.mono bw.size)
    clear b3 he2 hw3 bx bw
    go_wp2_with fail
    refine (implSlot_any v r2 _ (by omega) he3.tab).mono ?_
    have hne := slot_ne HN.out (by omega) v r2
    generalize slotS v r2 = R at hne ⊢
    rintro e w4 ⟨rfl, b4⟩
    have bx4 := bx3.below b4
    have bw4 := bw3.trans (b4.mono bw3.size)
    have he4 := he3.on b4
    clear b4 bx3 bw3 he3
    obtain ⟨f0, f1, f2, f3, f4, f5⟩ := bx4.facts
    have z := bx4.put (.int .i64 0) (.string ⟨#[]⟩) (.int .i64 0)
    obtain ⟨k0, k1, k2, -, -, -⟩ := z.facts
    have hg := he4.slot
    have hg1 : (w4.setCell ⟨w.heap.size, 0, none⟩ (.int .i64 0)).cell? ⟨0, 0, none⟩ = some (.iface 174 (.pointer (some a))) := by
      rw [World.cell?_setCell_other _ _ _ _ (fun e => by have := HG.out; injection e with e1; omega)]; exact hg
    have HF : Hid (Below w.heap.size w (((w4.setCell ⟨w.heap.size, 0, none⟩ (.int .i64 0)).setCell ⟨w.heap.size, 1, none⟩ (.string ⟨#[]⟩)).setCell ⟨w.heap.size, 2, none⟩ (.int .i64 0))) := put_below bw4 (Nat.le_refl _) _ _ _
    clear bx4 bw4 z he4
    go_wp2
    go_region
    go_wp2
    exact bodyPost_ret (v := .tuple #[.agg #[.int .i64 0, .string ⟨#[]⟩, .int .i64 0], .iface 174 (.pointer (some a))]) (by simp [results, Tryz.results35, go_sem, k0, k1, k2]) rfl ⟨rfl, HF.out.drew⟩
  | «syntax» =>
    obtain ⟨te, pe, hv⟩ := he2.syn
    refine (Tryz.strconv_ParseInt_10_at64_syntax x1 (by omega) hp _ _ hv (.inr ⟨te, pe, rfl⟩)).mono ?_
    rintro e w4 ⟨N, rfl, hN, hcell, b3⟩
    have bx4 := bx.below b3
    have bw4 := bw.trans (b3.mono bw.size)
    have he4 := he2.on b3
    clear b3 bx bw he2 hcell hp hv
    obtain ⟨f0, f1, f2, f3, f4, f5⟩ := bx4.facts
    have z := bx4.put (.int .i64 0) (.string ⟨#[]⟩) (.int .i64 0)
    obtain ⟨k0, k1, k2, -, -, -⟩ := z.facts
    have hg := he4.slot
    have hg1 : (w4.setCell ⟨w.heap.size, 0, none⟩ (.int .i64 0)).cell? ⟨0, 0, none⟩ = some (.iface 174 (.pointer (some a))) := by
      rw [World.cell?_setCell_other _ _ _ _ (fun e => by have := HG.out; injection e with e1; omega)]; exact hg
    have HF : Hid (Below w.heap.size w (((w4.setCell ⟨w.heap.size, 0, none⟩ (.int .i64 0)).setCell ⟨w.heap.size, 1, none⟩ (.string ⟨#[]⟩)).setCell ⟨w.heap.size, 2, none⟩ (.int .i64 0))) := put_below bw4 (Nat.le_refl _) _ _ _
    clear bx4 bw4 z he4
    go_wp2
    go_region
    go_wp2
    exact bodyPost_ret (v := .tuple #[.agg #[.int .i64 0, .string ⟨#[]⟩, .int .i64 0], .iface 174 (.pointer (some a))]) (by simp [results, Tryz.results35, go_sem, k0, k1, k2]) rfl ⟨rfl, HF.out.drew⟩
  | range =>
    obtain ⟨te, pe, hv⟩ := he2.rng
    refine (Tryz.strconv_ParseInt_10_at64_range x1 (by omega) hp _ _ hv (.inr ⟨te, pe, rfl⟩)).mono ?_
    rintro e w4 ⟨N, rfl, hN, hcell, b3⟩
    have bx4 := bx.below b3
    have bw4 := bw.trans (b3.mono bw.size)
    have he4 := he2.on b3
    clear b3 bx bw he2 hcell hp hv
    obtain ⟨f0, f1, f2, f3, f4, f5⟩ := bx4.facts
    have z := bx4.put (.int .i64 0) (.string ⟨#[]⟩) (.int .i64 0)
    obtain ⟨k0, k1, k2, -, -, -⟩ := z.facts
    have hg := he4.slot
    have hg1 : (w4.setCell ⟨w.heap.size, 0, none⟩ (.int .i64 0)).cell? ⟨0, 0, none⟩ = some (.iface 174 (.pointer (some a))) := by
      rw [World.cell?_setCell_other _ _ _ _ (fun e => by have := HG.out; injection e with e1; omega)]; exact hg
    have HF : Hid (Below w.heap.size w (((w4.setCell ⟨w.heap.size, 0, none⟩ (.int .i64 0)).setCell ⟨w.heap.size, 1, none⟩ (.string ⟨#[]⟩)).setCell ⟨w.heap.size, 2, none⟩ (.int .i64 0))) := put_below bw4 (Nat.le_refl _) _ _ _
    clear bx4 bw4 z he4
    go_wp2
    go_region
    go_wp2
    exact bodyPost_ret (v := .tuple #[.agg #[.int .i64 0, .string ⟨#[]⟩, .int .i64 0], .iface 174 (.pointer (some a))]) (by simp [results, Tryz.results35, go_sem, k0, k1, k2]) rfl ⟨rfl, HF.out.drew⟩
theorem isQ_nil (a : Addr) (w : World) : Calls Tryz.prog 36 #[.nilIface, .iface 174 (.pointer (some a))] w fun e w' => e = .returned (.bool false) ∧ ∃ n, w' = w.drewN n :=
  (is_nil a w).mono fun _ _ h => ⟨h.1, 0, h.2⟩
theorem isQ_same (a : Addr) (w : World) : Calls Tryz.prog 36 #[.iface 174 (.pointer (some a)), .iface 174 (.pointer (some a))] w fun e w' => e = .returned (.bool true) ∧ ∃ n, w' = w.drewN n :=
  (is_same a w).mono fun _ _ h => ⟨h.1, 0, h.2⟩
set_option maxHeartbeats 4000000 in
set_option maxRecDepth 100000 in
theorem implRead_yes (g : Int) (t : ByteArray) (a : Addr) (w : World) (h : 1 ≤ g ∧ g ≤ 1000000 ∧ t.size ≤ 300) (he : SEnv w a) :
    Calls Tryz.prog 14 #[.string (slotT g t)] w fun e w' => e = .returned (.tuple #[.int .i64 g, .string t, .bool true]) ∧ Below w.heap.size w w' := by
  go_enter Tryz.func14, Tryz.ntmps14
  go_wp2_with fail
  refine (slotOf_yes g t a _ h he).mono ?_
  rintro e w1 ⟨rfl, b1⟩
  have b2 := below1 w1 (.cells #[.int .i64 g, .string t, .int .i64 0] 57)
  have hg := ((he.on b1).on b2).slot
  obtain ⟨f0, f1, f2, -, -, -⟩ := (boxS_new w1 (.int .i64 g) (.string t) (.int .i64 0)).facts
  have bw := b1.trans (b2.mono b1.size)
  clear b1 b2
  go_wp2_with fail
  go_quiet (exact Calls.quiet_of (isQ_nil a _))
  go_wp2
  go_ret3
  exact ⟨rfl, below_drewN bw _⟩
set_option maxHeartbeats 4000000 in
set_option maxRecDepth 100000 in
theorem implRead_no (s : ByteArray) (a : Addr) (w : World) (hs : s.size ≤ 1048576) (h : RS s none) (he : SEnv w a) :
    Calls Tryz.prog 14 #[.string s] w fun e w' => e = .returned (.tuple #[.int .i64 0, .string ⟨#[]⟩, .bool false]) ∧ Below w.heap.size w w' := by
  go_enter Tryz.func14, Tryz.ntmps14
  go_wp2_with fail
  refine (slotOf_no s a _ hs h he).mono ?_
  rintro e w1 ⟨rfl, b1⟩
  have b2 := below1 w1 (.cells #[.int .i64 0, .string ⟨#[]⟩, .int .i64 0] 57)
  have hg := ((he.on b1).on b2).slot
  obtain ⟨f0, f1, f2, -, -, -⟩ := (boxS_new w1 (.int .i64 0) (.string ⟨#[]⟩) (.int .i64 0)).facts
  have bw := b1.trans (b2.mono b1.size)
  clear b1 b2
  go_wp2_with fail
  go_quiet (exact Calls.quiet_of (isQ_same a _))
  go_wp2
  go_ret3
  exact ⟨rfl, below_drewN bw _⟩
end Go.Proofs.YtpidmmfjmbinkaaGreatDoor
namespace Go.Proofs.YtpidmmfjmbinkaaGreatDoor
open Go.RowKit
/-- A device by its two slices. -/
abbrev dvOf (sa la : Option Addr) (cs cl : Nat) (ss : List ByteArray) (ps : List Pat) : DvX := ⟨.slice sa ss.length cs, .slice la ps.length cl, ss, ps⟩
theorem RdDv.op {w : World} {X : DvX} (h : RdDv w X) : ∃ (sa la : Option Addr) (cs cl : Nat), X = dvOf sa la cs cl X.secs X.late := by
  obtain ⟨sa, la, cs, cl, e1, e2, _⟩ := h.slices
  obtain ⟨vs, vl, ss, ps⟩ := X
  simp only at e1 e2
  subst e1 e2
  exact ⟨sa, la, cs, cl, rfl⟩
theorem ToDv.op {w w' : World} {ss : List ByteArray} {ps : List Pat} {e : Ending} (h : ToDv w ss ps e w') : ∃ (sa la : Option Addr) (cs cl : Nat), e = .returned (.agg #[.slice sa ss.length cs, .slice la ps.length cl]) ∧ RdDv w' (dvOf sa la cs cl ss ps) ∧ Below w.heap.size w w' := by
  obtain ⟨Y, rfl, rfl, rfl, ho, hb⟩ := h
  have hr := ho.rd
  obtain ⟨sa, la, cs, cl, e⟩ := hr.op
  rw [e] at hr
  exact ⟨sa, la, cs, cl, by rw [e], hr, hb⟩
theorem DvRes.op {w w' : World} {ss : List ByteArray} {ps : List Pat} {o : Bool} {e : Ending} (h : DvRes w ss ps o e w') : ∃ (sa la : Option Addr) (cs cl : Nat), e = .returned (.tuple #[.agg #[.slice sa ss.length cs, .slice la ps.length cl], .bool o]) ∧ RdDv w' (dvOf sa la cs cl ss ps) ∧ Below w.heap.size w w' := by
  obtain ⟨Y, rfl, rfl, rfl, ho, hb⟩ := h
  have hr := ho.rd
  obtain ⟨sa, la, cs, cl, e⟩ := hr.op
  rw [e] at hr
  exact ⟨sa, la, cs, cl, by rw [e], hr, hb⟩
/-- Devices that lie in boxes and can be read. -/
def Bx (W : World) (l : List (Nat × DvX)) : Prop := ∀ p ∈ l, DvAt W p.1 p.2 ∧ RdDv W p.2
theorem Bx.below {w w' : World} {l : List (Nat × DvX)} (h : Bx w l) (hb : Below w.heap.size w w') : Bx w' l := fun p hp => ⟨(h p hp).1.below hb, (h p hp).2.below hb⟩
theorem bx_nil (w : World) : Bx w [] := fun _ hp => by cases hp
theorem Bx.new {w : World} {l : List (Nat × DvX)} {X : DvX} (h : Bx w l) (hx : RdDv w X) (t : TypeId) : Bx (w.alloc (.cells #[X.vs, X.vl] t)) ((w.heap.size, X) :: l) := by
  intro p hp
  rcases List.mem_cons.1 hp with rfl | hp
  · exact ⟨dvAt_new w X t, hx.below (below1 _ _)⟩
  · exact h.below (below1 _ _) p hp
theorem Bx.at {w : World} {l : List (Nat × DvX)} (h : Bx w l) (b : Nat) (sa la : Option Addr) (cs cl : Nat) (ss : List ByteArray) (ps : List Pat) (hm : (b, dvOf sa la cs cl ss ps) ∈ l) : w.cell? ⟨b, 0, none⟩ = some (.slice sa ss.length cs) ∧ w.cell? ⟨b, 1, none⟩ = some (.slice la ps.length cl) := (h _ hm).1
theorem Bx.rd {w : World} {l : List (Nat × DvX)} (h : Bx w l) (b : Nat) (sa la : Option Addr) (cs cl : Nat) (ss : List ByteArray) (ps : List Pat) (hm : (b, dvOf sa la cs cl ss ps) ∈ l) : RdDv w (dvOf sa la cs cl ss ps) := (h _ hm).2

end Go.Proofs.YtpidmmfjmbinkaaGreatDoor
