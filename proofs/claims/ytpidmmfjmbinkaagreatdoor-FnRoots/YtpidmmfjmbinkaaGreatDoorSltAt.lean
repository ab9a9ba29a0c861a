/- The contracts of the program's slotAt and root. -/
import Derived.Test.YtpidmmfjmbinkaaGreatDoorG19
import Derived.Test.YtpidmmfjmbinkaaGreatDoorDevBar
namespace Go.Proofs.YtpidmmfjmbinkaaGreatDoor
open Go.RowKit
/-- What the package-level variables hold that a root is found by. -/
structure SEnv2 (w : World) (a b : Addr) : Prop where
  env : SEnv w a
  sec : w.cell? ⟨1, 0, none⟩ = some (.iface 174 (.pointer (some b)))
  ne : a ≠ b
  ba : ∃ c t, w.heap[a.block]? = some (.cells c t (0, 0))
  bb : ∃ c t, w.heap[b.block]? = some (.cells c t (0, 0))
theorem SEnv2.on {w w' : World} {a b : Addr} (h : SEnv2 w a b) (hb : Below w.heap.size w w') : SEnv2 w' a b := by
  refine ⟨h.env.on hb, (hb.cell (World.block_lt_of_cell? w _ h.sec)).trans h.sec, h.ne, ?_, ?_⟩
  · obtain ⟨c, t, e⟩ := h.ba
    exact ⟨c, t, (hb.block _ (Array.getElem?_eq_some_iff.1 e).1).trans e⟩
  · obtain ⟨c, t, e⟩ := h.bb
    exact ⟨c, t, (hb.block _ (Array.getElem?_eq_some_iff.1 e).1).trans e⟩
theorem rs_empty {r : Option (Int × ByteArray)} (h : RS ⟨#[]⟩ r) : r = none := by
  cases r with
  | none => rfl
  | some p =>
    obtain ⟨g, t⟩ := p
    have hs := (slot_size h.1).1
    rw [← h.2] at hs
    exact absurd hs (by decide)
def slotV (r : Option (Int × ByteArray)) (k : Int) : Value := .agg #[.int .i64 (rG r), .string (rT r), .int .i64 (if r.isSome then k else 0)]
/-- The error beside a sector's slot. -/
def errV (has : Bool) (r : Option (Int × ByteArray)) (k : Int) (a b : Addr) : Value := if has then (if r.isSome then .nilIface else secE k a) else secE k b
theorem lies_none2 {ss : List ByteArray} {ps : List Pat} {k : Nat} (h : ¬ k < ss.length) : liesL ss ps (k : Int) = ⟨#[]⟩ := by
  unfold liesL
  rw [if_neg (by simp; omega)]
set_option maxHeartbeats 8000000 in
set_option maxRecDepth 100000 in
theorem slotAt_any (k : Nat) (sa la : Option Addr) (cs cl : Nat) (ss : List ByteArray) (ps : List Pat) (r : Option (Int × ByteArray)) (a b : Addr) (w : World) (hx : RdDv w (dvOf sa la cs cl ss ps)) (h : RS (liesL ss ps (k : Int)) r) (he : SEnv2 w a b) :
    Calls Tryz.prog 60 #[.agg #[.slice sa ss.length cs, .slice la ps.length cl], .int .i64 (k : Int)] w fun e w' => e = .returned (.tuple #[slotV r k, errV (decide (k < ss.length)) r k a b]) ∧ Below w.heap.size w w' := by
  have HG : Hid ((1 : Nat) < w.heap.size) := World.block_lt_of_cell? w _ he.sec
  have B0 : Bx (w.alloc (.cells #[.slice sa ss.length cs, .slice la ps.length cl] 27)) _ := (bx_nil w).new hx 27
  have b0 := below1 w (.cells #[.slice sa ss.length cs, .slice la ps.length cl] 27)
  have s0 : (w.alloc (.cells #[.slice sa ss.length cs, .slice la ps.length cl] 27)).heap.size = w.heap.size + 1 := by simp
  have b1 := below1 (w.alloc (.cells #[.slice sa ss.length cs, .slice la ps.length cl] 27)) (.cells #[.int .i64 0, .string ⟨#[]⟩, .int .i64 0] 57)
  have B1 := B0.below b1
  have x1 := boxS_new (w.alloc (.cells #[.slice sa ss.length cs, .slice la ps.length cl] 27)) (.int .i64 0) (.string ⟨#[]⟩) (.int .i64 0)
  rw [s0] at x1
  replace b1 := b0.trans (b1.mono b0.size)
  have e1 := he.on b1
  clear B0 b0 s0 he
  obtain ⟨c0, c1⟩ := B1.at _ sa la cs cl ss ps (.head _)
  go_enter Tryz.func60, Tryz.ntmps60
  go_wp2_with fail
  clear c0 c1
  generalize (w.alloc (.cells #[.slice sa ss.length cs, .slice la ps.length cl] 27)).alloc (.cells #[.int .i64 0, .string ⟨#[]⟩, .int .i64 0] 57) = W1 at B1 b1 x1 e1 ⊢
  refine (hasSector_any _ _ ss (k : Int) _ (B1.rd _ _ _ _ _ _ _ (.head _)).secs).mono ?_
  rintro e w2 ⟨rfl, b2⟩
  have B2 := B1.below b2
  have x2 := x1.below b2
  have e2 := e1.on b2
  replace b2 := b1.trans (b2.mono b1.size)
  clear B1 b1 x1 e1
  by_cases hn : k < ss.length
  · have hd : (decide (0 ≤ (k : Int)) && decide ((k : Int) < (ss.length : Int))) = true := by simp; omega
    rw [hd]
    have HD : Hid (decide (k < ss.length) = true) := by unfold Hid; simp [hn]
    clear hd
    obtain ⟨c0, c1⟩ := B2.at _ sa la cs cl ss ps (.head _)
    go_wp2_with fail
    clear c0 c1
    refine (implLies_any (dvOf sa la cs cl ss ps) (k : Int) _ (B2.rd _ _ _ _ _ _ _ (.head _))).mono ?_
    rintro e w3 ⟨hee, b3⟩
    replace hee : e = .returned (.string (liesL ss ps (k : Int))) := hee
    subst hee
    have x3 := x2.below b3
    have e3 := e2.on b3
    replace b3 := b2.trans (b3.mono b2.size)
    clear B2 b2 x2 e2
    have hsz := lies_size ss ps (k : Int)
    generalize liesL ss ps (k : Int) = s at h hsz ⊢
    cases r with
    | none =>
      go_wp2_with fail
      refine (slotOf_no s a _ (by omega) h e3.env).mono ?_
      rintro e w4 ⟨rfl, b4⟩
      have x4 := x3.below b4
      replace b4 := b3.trans (b4.mono b3.size)
      have bl := below1 w4 (.cells #[.int .i64 0, .string ⟨#[]⟩, .int .i64 0] 57)
      have x5 := x4.below bl
      have b5 := b4.trans (bl.mono b4.size)
      obtain ⟨f0, f1, f2, f3, f4, f5⟩ := x5.facts
      have z := x5.put (.int .i64 0) (.string ⟨#[]⟩) (.int .i64 0)
      obtain ⟨k0, k1, k2, -, -, -⟩ := z.facts
      have HF : Hid (Below w.heap.size w ((((w4.alloc (.cells #[.int .i64 0, .string ⟨#[]⟩, .int .i64 0] 57)).setCell ⟨w.heap.size + 1, 0, none⟩ (.int .i64 0)).setCell ⟨w.heap.size + 1, 1, none⟩ (.string ⟨#[]⟩)).setCell ⟨w.heap.size + 1, 2, none⟩ (.int .i64 0))) := put_below b5 (by omega) _ _ _
      clear x3 b3 e3 x4 b4 bl x5 b5 z h
      go_wp2
      exact bodyPost_ret (v := .tuple #[.agg #[.int .i64 0, .string ⟨#[]⟩, .int .i64 0], secE k a]) (by simp [results, Tryz.results60, go_sem, k0, k1, k2]) rfl ⟨by rw [HD.out]; rfl, HF.out⟩
    | some q =>
      obtain ⟨g, t⟩ := q
      obtain ⟨hg, rfl⟩ := h
      go_wp2_with fail
      refine (slotOf_yes g t a _ hg e3.env).mono ?_
      rintro e w4 ⟨rfl, b4⟩
      have x4 := x3.below b4
      replace b4 := b3.trans (b4.mono b3.size)
      have bl := below1 w4 (.cells #[.int .i64 g, .string t, .int .i64 (k : Int)] 57)
      have x5 := x4.below bl
      have b5 := b4.trans (bl.mono b4.size)
      obtain ⟨f0, f1, f2, f3, f4, f5⟩ := x5.facts
      have z := x5.put (.int .i64 g) (.string t) (.int .i64 (k : Int))
      obtain ⟨k0, k1, k2, -, -, -⟩ := z.facts
      have HF : Hid (Below w.heap.size w ((((w4.alloc (.cells #[.int .i64 g, .string t, .int .i64 (k : Int)] 57)).setCell ⟨w.heap.size + 1, 0, none⟩ (.int .i64 g)).setCell ⟨w.heap.size + 1, 1, none⟩ (.string t)).setCell ⟨w.heap.size + 1, 2, none⟩ (.int .i64 (k : Int)))) := put_below b5 (by omega) _ _ _
      clear x3 b3 e3 x4 b4 bl x5 b5 z
      go_wp2
      exact bodyPost_ret (v := .tuple #[.agg #[.int .i64 g, .string t, .int .i64 (k : Int)], .nilIface]) (by simp [results, Tryz.results60, go_sem, k0, k1, k2]) rfl ⟨by rw [HD.out]; rfl, HF.out⟩
  · have hd : (decide (0 ≤ (k : Int)) && decide ((k : Int) < (ss.length : Int))) = false := by simp; omega
    rw [hd]
    have HD : Hid (decide (k < ss.length) = false) := by unfold Hid; simp; omega
    rw [lies_none2 hn] at h
    obtain rfl := rs_empty h
    obtain ⟨f0, f1, f2, f3, f4, f5⟩ := x2.facts
    have z := x2.put (.int .i64 0) (.string ⟨#[]⟩) (.int .i64 0)
    obtain ⟨k0, k1, k2, -, -, -⟩ := z.facts
    have hg := e2.sec
    have hg1 : (w2.setCell ⟨w.heap.size + 1, 0, none⟩ (.int .i64 0)).cell? ⟨1, 0, none⟩ = some (.iface 174 (.pointer (some b))) := by
      rw [World.cell?_setCell_other _ _ _ _ (fun e => by have := HG.out; injection e with e1; omega)]; exact hg
    have HF : Hid (Below w.heap.size w (((w2.setCell ⟨w.heap.size + 1, 0, none⟩ (.int .i64 0)).setCell ⟨w.heap.size + 1, 1, none⟩ (.string ⟨#[]⟩)).setCell ⟨w.heap.size + 1, 2, none⟩ (.int .i64 0))) := put_below b2 (by omega) _ _ _
    clear B2 x2 e2 b2 z h hd
    go_wp2
    go_region
    go_wp2
    exact bodyPost_ret (v := .tuple #[.agg #[.int .i64 0, .string ⟨#[]⟩, .int .i64 0], secE k b]) (by simp [results, Tryz.results60, go_sem, k0, k1, k2]) rfl ⟨by rw [HD.out]; rfl, HF.out.drew⟩
end Go.Proofs.YtpidmmfjmbinkaaGreatDoor
