/- The contracts of the program's keepers: a row of closures, each of which keeps one patch in its sector. -/
import Derived.Test.YtpidmmfjmbinkaaGreatDoorDevCopy
import Derived.Test.YtpidmmfjmbinkaaGreatDoorDevImp
-- UNF Gen
namespace Go.Proofs.YtpidmmfjmbinkaaGreatDoor
open Go.RowKit
theorem Tryz.infoF1 : (Tryz.prog.info? 1).map (fun i => (i.zero, i.size, i.bytes)) = some (some .nilFunc, 1, 8) := by kernel_rfl
/-- The closure over the patch at block b and the sectors at block bS; a row of them. -/
def KF (bS b : Nat) : Value := .func (.func 89) #[] #[.pointer (some ⟨b, 0, none⟩), .pointer (some ⟨bS, 0, none⟩)]
def KV (bS : Nat) (ps : List Nat) : List Value := ps.map (KF bS)
theorem KV_get (bS : Nat) (ps : List Nat) (i : Nat) (h : i < ps.length) : (KV bS ps)[i]? = some (KF bS ps[i]) := by simp [KV, h]
theorem run_append_keep (ty : TypeId) {w : World} {base bP bS b : Nat} {v : Value} {ps : List Nat} (hown : w.ownsRow base 1 1 v ps.length (KV bS ps)) (hc : w.cell? ⟨bP, 0, none⟩ = some (KF bS b)) (hl : ps.length ≤ 1000000000) (hbase : base ≤ w.heap.size) :
    ∃ v' w', (Builtin.append_ #[109, 109] ty #[v, .slice (some ⟨bP, 0, none⟩) 1 1]).run Tryz.prog w = .ok v' w' ∧ w'.ownsRow base 1 1 v' (ps ++ [b]).length (KV bS (ps ++ [b])) ∧ w.grownBy w' v.ownBlock := by
  obtain ⟨i0, hi, hz0, hz1, hz2⟩ := info_parts Tryz.infoF1
  obtain ⟨v', w', hrun, r1, r2, _⟩ := run_append_own (P := Tryz.prog) w base 109 ty 1 i0 _ 1 8 Tryz.underlying109 hi hz0 hz1 hz2 rfl (by decide) v ps.length (KV bS ps) hown ⟨bP, 0, none⟩ 1 1 [KF bS b] rfl (fun j u hj => by
    match j, hj with
    | 0, hj => simp at hj; subst hj; exact hc) (fun u hu => by simp at hu; subst hu; rfl) (by unfold maxLen; omega) (by omega) hbase
  refine ⟨v', w', hrun, ?_, r2⟩
  rw [List.length_append]
  unfold KV at r1 ⊢
  rw [List.map_append]
  exact r1
theorem wpList_append_keep {w : World} {ops : Array Oper} {rest : List Oper} {o : Oper} {a : Act} {Q : Exit → Act → World → Prop} (hgd : o.guard = none) (s x : Operand)
    (ho : o.op = .call { callee := .builtin .append, args := #[s, x], argTypes := #[109, 109] }) (base bP bS b : Nat) (v : Value) (ps : List Nat) (hs : a.eval s = v) (hx : a.eval x = .slice (some ⟨bP, 0, none⟩) 1 1) (hown : w.ownsRow base 1 1 v ps.length (KV bS ps)) (hc : w.cell? ⟨bP, 0, none⟩ = some (KF bS b)) (hl : ps.length ≤ 1000000000) (hbase : base ≤ w.heap.size)
    (h : ∀ v' w', w'.ownsRow base 1 1 v' (ps ++ [b]).length (KV bS (ps ++ [b])) → w.grownBy w' v.ownBlock → wpList Tryz.prog ops Q rest (a.put o.dst v') w') : wpList Tryz.prog ops Q (o :: rest) a w := by
  refine wpList_plain hgd fun K hK => ?_
  obtain ⟨v', w', hrun, r1, r2⟩ := run_append_keep o.type hown hc hl hbase
  unfold Oper.wp
  simp [execOp, ho, resolve, invoke, builtin, hs, hx, hrun, Result.andThen]
  exact hK _ _ (h v' w' r1 r2)
/-- One closure keeps its patch. -/
theorem keep1_any (b bS g cap sn q : Nat) (txt old : ByteArray) (w : World) (hp : PatAt w b 0 ⟨(q : Int), txt⟩) (hS : w.cell? ⟨bS, 0, none⟩ = some (.slice (some ⟨g, 0, none⟩) sn cap)) (hq : q < sn) (hcn : sn ≤ cap) (hc : w.cell? ⟨g, q, none⟩ = some (.string old)) (hf : w.frozen? ⟨g, q, none⟩ = false) :
    Calls Tryz.prog 89 #[.pointer (some ⟨b, 0, none⟩), .pointer (some ⟨bS, 0, none⟩)] w fun e w' => e = .returned (.tuple #[]) ∧ w' = w.setCell ⟨g, q, none⟩ (.string txt) := by
  obtain ⟨c0, c1⟩ := hp
  simp only [Nat.zero_add] at c0 c1
  have hqc : q < cap := by omega
  go_enter Tryz.func89, Tryz.ntmps89
  go_wp2
  first | go_end0 | go_ret | skip
  exact ⟨rfl, rfl⟩
/-- A patch's box, and the box of a variable that holds a row of texts. -/
def BoxPt (w : World) (b : Nat) (p : Pat) : Prop := w.heap[b]? = some (.cells #[.int .i64 p.pos, .string p.text] 70 (0, 0))
def BoxV (w : World) (b : Nat) (v : Value) : Prop := w.heap[b]? = some (.cells #[v] 24 (0, 0))
theorem BoxPt.at {w : World} {b : Nat} {p : Pat} (h : BoxPt w b p) : PatAt w b 0 p := by
  unfold BoxPt at h
  constructor <;> simp [World.cell?, h]
theorem BoxV.at {w : World} {b : Nat} {v : Value} (h : BoxV w b v) : w.cell? ⟨b, 0, none⟩ = some v := by
  unfold BoxV at h
  simp [World.cell?, h]
theorem BoxPt.lt {w : World} {b : Nat} {p : Pat} (h : BoxPt w b p) : b < w.heap.size := (Array.getElem?_eq_some_iff.1 h).1
theorem BoxV.lt {w : World} {b : Nat} {v : Value} (h : BoxV w b v) : b < w.heap.size := (Array.getElem?_eq_some_iff.1 h).1
theorem BoxPt.below {w w' : World} {b : Nat} {p : Pat} (h : BoxPt w b p) (hb : Below w.heap.size w w') : BoxPt w' b p := (hb.block b h.lt).trans h
theorem BoxV.below {w w' : World} {b : Nat} {v : Value} (h : BoxV w b v) (hb : Below w.heap.size w w') : BoxV w' b v := (hb.block b h.lt).trans h
/-- A box lies apart from a row of another type. -/
theorem box_row {w : World} {B b t t' s n : Nat} {cs : Array Value} {fz : Nat × Nat} {v : Value} {xs : List Value} (h : w.heap[b]? = some (.cells cs t' fz)) (ho : w.ownsRow B t s v n xs) (ht : t ≠ t') : ∀ k, v.ownBlock = some k → b = k → False := by
  intro k hk e
  subst e
  rcases ho.2 with ⟨rfl, _⟩ | ⟨g, cap, cur, rfl, _, hg, _⟩
  · simp [Value.ownBlock] at hk
  · obtain rfl : g = b := by simpa [Value.ownBlock] using hk
    rw [h] at hg
    injection hg with hg
    injection hg with _ h2
    exact ht h2.symm
theorem box_grown {w w' : World} {B b t t' s n : Nat} {cs : Array Value} {fz : Nat × Nat} {v : Value} {xs : List Value} (h : w.heap[b]? = some (.cells cs t' fz)) (ho : w.ownsRow B t s v n xs) (ht : t ≠ t') (hg : w.grownBy w' v.ownBlock) : w'.heap[b]? = some (.cells cs t' fz) :=
  (hg.block b (Array.getElem?_eq_some_iff.1 h).1 (fun e => box_row h ho ht b e.symm rfl)).trans h
/-- What keepers leaves. -/
structure Kept (w0 w : World) (u : Value) (bS : Nat) (vS : Value) (l : List Pat) (ps : List Nat) : Prop where
  row : w.ownsRow w0.heap.size 1 1 u ps.length (KV bS ps)
  ge : w0.heap.size ≤ bS
  sec : BoxV w bS vS
  pat : ∀ i, i < ps.length → w0.heap.size ≤ ps.getD i 0 ∧ BoxPt w (ps.getD i 0) (nthP l i)
theorem Kept.below {w0 w w' : World} {u vS : Value} {bS : Nat} {l : List Pat} {ps : List Nat} (h : Kept w0 w u bS vS l ps) (hb : Below w.heap.size w w') : Kept w0 w' u bS vS l ps :=
  ⟨own_below h.row hb, h.ge, h.sec.below hb, fun i hi => ⟨(h.pat i hi).1, (h.pat i hi).2.below hb⟩⟩
/-- A text written into a row of texts leaves the keepers as they were. -/
theorem Kept.set {w0 w : World} {u vS : Value} {bS g q n cap B : Nat} {l : List Pat} {ps : List Nat} {xs : List Value} {x : Value} (h : Kept w0 w u bS vS l ps) (ho : w.ownsRow B 9 1 (.slice (some ⟨g, 0, none⟩) n cap) n xs) : Kept w0 (w.setCell ⟨g, q, none⟩ x) u bS vS l ps :=
  ⟨row_set h.row (fun k hk e => rows_apart h.row ho (by decide) k hk (by rw [← e]; rfl)), h.ge, (block_set (fun e => box_row h.sec ho (by decide) g rfl e.symm)).trans h.sec, fun i hi => ⟨(h.pat i hi).1, (block_set (fun e => box_row (h.pat i hi).2 ho (by decide) g rfl e.symm)).trans (h.pat i hi).2⟩⟩
set_option maxHeartbeats 8000000 in
set_option maxRecDepth 100000 in
theorem keepers_any (vs vl : Value) (va : Option Addr) (vn vc : Nat) (l : List Pat) (w : World) (hl : RdPt w vl l) (hn : l.length ≤ 1000000) :
    Calls Tryz.prog 74 #[.agg #[vs, vl], .slice va vn vc] w fun e w' => ∃ u bS ps, e = .returned u ∧ ps.length = l.length ∧ Kept w w' u bS (.slice va vn vc) l ps ∧ Below w.heap.size w w' := by
  obtain ⟨la, cl, hvl, h1, h2, -⟩ := id hl
  unfold maxLen at h2
  obtain ⟨ln, hln⟩ : ∃ ln, ln = l.length := ⟨_, rfl⟩
  rw [← hln] at hvl h1 hn
  have HLN : Hid (ln = l.length) := hln
  subst hvl
  have b0 := below1 w (.cells #[vs, .slice la ln cl] 27)
  obtain ⟨W0, hW0⟩ : ∃ W0, W0 = w.alloc (.cells #[vs, .slice la ln cl] 27) := ⟨_, rfl⟩
  have d1 : W0.cell? ⟨w.heap.size, 1, none⟩ = some (.slice la ln cl) := by rw [hW0]; simp [World.cell?_alloc_at]
  have s0 : W0.heap.size = w.heap.size + 1 := by rw [hW0]; simp
  rw [← hW0] at b0
  have bb1 := below1 W0 (.cells #[.slice va vn vc] 24)
  have v1 : BoxV (W0.alloc (.cells #[.slice va vn vc] 24)) (w.heap.size + 1) (.slice va vn vc) := by rw [← s0]; exact heap_alloc_new W0 _
  have d2 : (W0.alloc (.cells #[.slice va vn vc] 24)).cell? ⟨w.heap.size, 1, none⟩ = some (.slice la ln cl) := by rw [World.cell?_alloc_past _ _ _ (by simp [s0])]; exact d1
  obtain ⟨W1, hW1⟩ : ∃ W1, W1 = W0.alloc (.cells #[.slice va vn vc] 24) := ⟨_, rfl⟩
  have s1 : W1.heap.size = w.heap.size + 2 := by rw [hW1]; simp [s0]
  rw [← hW1] at bb1 v1 d2
  have b1 := b0.trans (bb1.mono b0.size)
  have bb2 := below1 W1 (.cells #[] 1)
  have o2 : (W1.alloc (.cells #[] 1)).ownsRow w.heap.size 1 1 (.slice (some ⟨w.heap.size + 2, 0, none⟩) 0 0) 0 (KV (w.heap.size + 1) []) := by rw [← s1]; exact World.ownsRow_lit W1 #[] 0 (by omega) (Nat.zero_le _) rfl
  have v2 := v1.below bb2
  have b2 := b1.trans (bb2.mono b1.size)
  have d3 : (W1.alloc (.cells #[] 1)).cell? ⟨w.heap.size, 1, none⟩ = some (.slice la ln cl) := by rw [World.cell?_alloc_past _ _ _ (show w.heap.size < W1.heap.size by omega)]; exact d2
  have HW : Hid (((w.alloc (.cells #[vs, .slice la ln cl] 27)).alloc (.cells #[.slice va vn vc] 24)).alloc (.cells #[] 1) = W1.alloc (.cells #[] 1)) := by unfold Hid; rw [hW1, hW0]
  rw [← HW.out] at d3
  clear hW0 hW1 d1 d2 b0 bb1 v1 b1 bb2 s0 hln
  have hmf : ∀ (fn : Fn) (first cap : Array Value) (w : World), (Instr.makeFunc fn first cap).run Tryz.prog w = .ok (.func fn first cap) w := fun _ _ _ _ => rfl
  go_enter Tryz.func74, Tryz.ntmps74
  go_wp2
  rw [HW.out]
  generalize W1.alloc (.cells #[] 1) = W2 at o2 v2 b2 HW d3 ⊢
  clear d3 HW
  go_loopw [5, 12] (fun f i wr => ∃ (k : Nat) (ps : List Nat), k ≤ ln ∧ i = .int .i64 k ∧ Hid (ps.length = k) ∧ Hid (Kept w wr f (w.heap.size + 1) (.slice va vn vc) l ps) ∧ Below w.heap.size w wr) (fun _ i _ => ln - (intOf i).toNat)
  case atStart => exact ⟨0, [], Nat.zero_le _, rfl, rfl, ⟨o2, by omega, v2, fun i hi => by simp at hi⟩, b2⟩
  case round =>
    clear o2 v2 b2
    obtain ⟨k, ps, hk, rfl, HPS, HKE, hb⟩ := hrel
    by_cases hlt : k < ln
    · obtain ⟨b, off, rfl, c0, c1⟩ := (hl.below hb).at HLN.out k (by rw [← HLN.out]; exact hlt)
      have hkc : k < cl := by omega
      obtain ⟨p, hp⟩ : ∃ p, p = nthP l k := ⟨_, rfl⟩
      rw [← hp] at c0 c1
      have Hp : Hid (p = nthP l k) := hp
      clear hp
      obtain ⟨pos, text⟩ := p
      simp only at c0 c1
      have bb3 := below1 wr (.cells #[.int .i64 pos, .string text] 70)
      have p3 : BoxPt (wr.alloc (.cells #[.int .i64 pos, .string text] 70)) wr.heap.size ⟨pos, text⟩ := heap_alloc_new wr _
      have k3 := HKE.out.below bb3
      have b3 := hb.trans (bb3.mono hb.size)
      obtain ⟨V3, hV3⟩ : ∃ V3, V3 = wr.alloc (.cells #[.int .i64 pos, .string text] 70) := ⟨_, rfl⟩
      have s3 : V3.heap.size = wr.heap.size + 1 := by rw [hV3]; simp
      rw [← hV3] at p3 k3 b3
      have bb4 := below1 V3 (.cells #[.func (.func 89) #[] #[.pointer (some ⟨wr.heap.size, 0, none⟩), .pointer (some ⟨w.heap.size + 1, 0, none⟩)]] 1)
      have f4 : (V3.alloc (.cells #[.func (.func 89) #[] #[.pointer (some ⟨wr.heap.size, 0, none⟩), .pointer (some ⟨w.heap.size + 1, 0, none⟩)]] 1)).cell? ⟨wr.heap.size + 1, 0, none⟩ = some (KF (w.heap.size + 1) wr.heap.size) := by rw [← s3]; simp [World.cell?_alloc_at]; rfl
      have p4 := p3.below bb4
      have k4 := k3.below bb4
      have b4 := b3.trans (bb4.mono b3.size)
      have s4 : (V3.alloc (.cells #[.func (.func 89) #[] #[.pointer (some ⟨wr.heap.size, 0, none⟩), .pointer (some ⟨w.heap.size + 1, 0, none⟩)]] 1)).heap.size = wr.heap.size + 2 := by simp [s3]
      have HBW : Hid (w.heap.size ≤ wr.heap.size) := hb.size
      have K4 : Hid (Kept _ _ _ _ _ _ _) := k4
      have P4 : Hid (BoxPt _ _ _) := p4
      have O4 := k4.row
      have HPL : Hid (ps.length ≤ 1000000000) := by unfold Hid; rw [HPS.out]; omega
      clear k4 p4 bb3 p3 k3 b3 bb4 hb HKE s3
      rw [hV3] at f4 O4 s4
      go_wp2_with (at_builtin; (refine wpList_append_keep rfl _ _ rfl w.heap.size (wr.heap.size + 1) (w.heap.size + 1) wr.heap.size _ ps rfl rfl O4 f4 HPL.out (by rw [s4]; have := HBW.out; omega) ?_))
      intro v5 w5 r5 g5
      rw [← hV3] at g5 s4
      have b5 := b4.grown g5 (by rw [s4]; have := HBW.out; omega) (fun q hq => (World.ownsRow.lt K4.out.row q hq).1)
      have KN : Hid (Kept w w5 v5 (w.heap.size + 1) (.slice va vn vc) l (ps ++ [wr.heap.size])) := by
        refine ⟨by simpa using r5, by omega, box_grown K4.out.sec K4.out.row (by decide) g5, fun i hi => ?_⟩
        by_cases hik : i < ps.length
        · rw [show (ps ++ [wr.heap.size]).getD i 0 = ps.getD i 0 by simp [List.getD, List.getElem?_append_left hik]]
          exact ⟨(K4.out.pat i hik).1, box_grown (K4.out.pat i hik).2 K4.out.row (by decide) g5⟩
        · have hie : i = ps.length := by rw [List.length_append] at hi; simp at hi; omega
          subst hie
          rw [show (ps ++ [wr.heap.size]).getD ps.length 0 = wr.heap.size by simp [List.getD]]
          refine ⟨HBW.out, ?_⟩
          rw [HPS.out, ← Hp.out]
          exact box_grown P4.out K4.out.row (by decide) g5
      have HPN : Hid ((ps ++ [wr.heap.size]).length = k + 1) := by unfold Hid; rw [List.length_append, HPS.out]; rfl
      clear r5 g5 K4 P4 O4 f4 s4 b4 hV3 c0 c1
      go_wp2
      go_roundw
      case rel => exact ⟨k + 1, _, by omega, by go_num, HPN, KN, b5⟩
      case measure => simp [intOf]; omega
    · have hke : k = ln := by omega
      have HPE : Hid (ps.length = l.length) := by unfold Hid; rw [HPS.out, hke, HLN.out]
      clear hke
      go_wp2
      go_ret
      exact ⟨_, _, ps, rfl, HPE.out, HKE.out, hb⟩
end Go.Proofs.YtpidmmfjmbinkaaGreatDoor
