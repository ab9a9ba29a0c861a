/- The contract of the program's Holds. -/
import Derived.Test.YtmfopbkhlekhkaaDoorTriLad2
namespace Go.Proofs.YtmfopbkhlekhkaaDoor
open Go.RowKit
theorem load_rowW {P : Program} {ops : Array Oper} {rest : List Oper} {o : Oper} {a : Act} {w : World} {Q : Exit → Act → World → Prop} (hw : Region.wanted o (yielded ops a.tmps) = true) (ty : TypeId) (x : Operand) (ho : o.op = .load ty x)
    (g : Nat) (hx : a.eval x = .pointer (some ⟨g, 0, none⟩)) (t : TypeId) (cs : Array Value) (fr : Nat × Nat) (d : TypeDesc) (hg : w.heap[g]? = some (.cells cs t fr))
    (hu : P.underlying ty = some d) (hd : (match d with | .struct _ | .array _ _ => true | _ => false) = true) (hi : (P.info? ty).map (·.size) = some cs.size)
    (h : wpList P ops Q rest (a.put o.dst (.agg cs)) w) : wpList P ops Q (o :: rest) a w :=
  wpList_step fun K hK => by rw [if_pos hw]; exact wp_load_row ty x ho g hx t cs fr d hg hu hd hi (hK _ _ h)
theorem LAD_eq (A : Nat) (v : Int) (ws : List Int) : LAD A v ws = .agg (IV (ladK A v ws 8)).toArray := rfl
theorem Z27_eq : Z27 = .agg (IV z27).toArray := rfl
set_option maxHeartbeats 4000000 in
set_option maxRecDepth 100000 in
theorem implHolds_any (q p v : Int) (vw : Value) (ws : List Int) (w : World) (hr : RdI w vw ws) (hi : ∀ j, I64 (ws.getD j 0)) (ht : Tab w) :
    Calls Tryd.prog 11 #[.int .i64 q, .int .i64 p, .int .i64 v, vw] w fun e w' => e = .returned (.bool (hldR q p v ws)) ∧ Below w.heap.size w w' := by
  cases htl : tldB p v ws.length with
  | false =>
    have RES : Hid (hldR q p v ws = false) := by unfold Hid hldR; rw [htl]; rfl
    have HC := ladderNo_any p v vw ws w hr htl
    rw [Z27_eq] at HC
    have hsz : (Tryd.prog.info? 68).map (·.size) = some (IV z27).toArray.size := by kernel_rfl
    have hall := IV_all z27
    have hos : (#[.int .i64 0, .int .i64 0, .int .i64 0, .int .i64 0, .int .i64 0, .int .i64 0, .int .i64 0, .int .i64 0, .int .i64 0, .int .i64 0, .int .i64 0, .int .i64 0, .int .i64 0, .int .i64 0, .int .i64 0, .int .i64 0, .int .i64 0, .int .i64 0, .int .i64 0, .int .i64 0, .int .i64 0, .int .i64 0, .int .i64 0, .int .i64 0, .int .i64 0, .int .i64 0, .int .i64 0] : Array Value).size = (IV z27).toArray.size := rfl
    generalize (IV z27).toArray = CC at HC hsz hall hos
    clear htl
    go_enter Tryd.func11, Tryd.ntmps11
    go_wp2_with fail
    refine HC.mono ?_
    rintro e w1 ⟨rfl, b1⟩
    have b2 := below_setRow (g := w1.heap.size) (c := CC) (b1.alloc b1.size (.cells #[.int .i64 0, .int .i64 0, .int .i64 0, .int .i64 0, .int .i64 0, .int .i64 0, .int .i64 0, .int .i64 0, .int .i64 0, .int .i64 0, .int .i64 0, .int .i64 0, .int .i64 0, .int .i64 0, .int .i64 0, .int .i64 0, .int .i64 0, .int .i64 0, .int .i64 0, .int .i64 0, .int .i64 0, .int .i64 0, .int .i64 0, .int .i64 0, .int .i64 0, .int .i64 0, .int .i64 0] 68)) b1.size
    go_wp2_with (refine wpList_store_row rfl 68 _ _ rfl w1.heap.size CC rfl rfl 68 _ (heap_alloc_new w1 _) hsz hos hall ?_)
    go_ret
    exact ⟨ret_bool RES.out.symm, b2⟩
  | true =>
    obtain ⟨hp, hv, hn⟩ := tldB_iff.1 htl
    obtain ⟨A, rfl⟩ : ∃ A : Nat, p = (A : Int) := ⟨p.toNat, by omega⟩
    have RES : Hid (hldR q (A : Int) v ws = decide (rnL A v ws 8 = q)) := by unfold Hid hldR; rw [htl, Int.toNat_natCast]; rfl
    have HC := ladderYes_any A v vw ws w hr hi (by omega) hv hn ht
    have HP := fun W => ladPeak_any A v ws W
    rw [LAD_eq] at HC HP
    have hsz : (Tryd.prog.info? 68).map (·.size) = some (IV (ladK A v ws 8)).toArray.size := by rw [List.size_toArray, IV_length, ladK_len]; kernel_rfl
    have hall := IV_all (ladK A v ws 8)
    have hos : (#[.int .i64 0, .int .i64 0, .int .i64 0, .int .i64 0, .int .i64 0, .int .i64 0, .int .i64 0, .int .i64 0, .int .i64 0, .int .i64 0, .int .i64 0, .int .i64 0, .int .i64 0, .int .i64 0, .int .i64 0, .int .i64 0, .int .i64 0, .int .i64 0, .int .i64 0, .int .i64 0, .int .i64 0, .int .i64 0, .int .i64 0, .int .i64 0, .int .i64 0, .int .i64 0, .int .i64 0] : Array Value).size = (IV (ladK A v ws 8)).toArray.size := by
      have e : (IV (ladK A v ws 8)).toArray.size = 27 := by rw [List.size_toArray, IV_length, ladK_len]
      rw [e]; rfl
    generalize (IV (ladK A v ws 8)).toArray = CC at HC HP hsz hall hos
    generalize rnL A v ws 8 = N at HP RES
    clear htl hp hv hn hi hr
    go_enter Tryd.func11, Tryd.ntmps11
    go_wp2_with fail
    refine HC.mono ?_
    rintro e w1 ⟨rfl, b1⟩
    have hg := setRow_heap (w1.alloc (.cells #[.int .i64 0, .int .i64 0, .int .i64 0, .int .i64 0, .int .i64 0, .int .i64 0, .int .i64 0, .int .i64 0, .int .i64 0, .int .i64 0, .int .i64 0, .int .i64 0, .int .i64 0, .int .i64 0, .int .i64 0, .int .i64 0, .int .i64 0, .int .i64 0, .int .i64 0, .int .i64 0, .int .i64 0, .int .i64 0, .int .i64 0, .int .i64 0, .int .i64 0, .int .i64 0, .int .i64 0] 68)) w1.heap.size _ CC _ _ (heap_alloc_new w1 _)
    have b2 := below_setRow (g := w1.heap.size) (c := CC) (b1.alloc b1.size (.cells #[.int .i64 0, .int .i64 0, .int .i64 0, .int .i64 0, .int .i64 0, .int .i64 0, .int .i64 0, .int .i64 0, .int .i64 0, .int .i64 0, .int .i64 0, .int .i64 0, .int .i64 0, .int .i64 0, .int .i64 0, .int .i64 0, .int .i64 0, .int .i64 0, .int .i64 0, .int .i64 0, .int .i64 0, .int .i64 0, .int .i64 0, .int .i64 0, .int .i64 0, .int .i64 0, .int .i64 0] 68)) b1.size
    go_wp2_with (first | (refine wpList_store_row rfl 68 _ _ rfl w1.heap.size CC rfl rfl 68 _ (heap_alloc_new w1 _) hsz hos hall ?_) | (refine load_rowW (by kernel_rfl) 68 _ rfl w1.heap.size rfl 68 CC (0, 0) _ hg Tryd.underlying68 (by rfl) hsz ?_) | (go_at_call 47; refine (HP _).mono ?_; rintro e w2 ⟨rfl, hb2⟩))
    go_ret
    have b3 := b2.trans (hb2.mono b2.size)
    exact ⟨ret_bool (by rw [RES.out, Bool.eq_iff_iff]; simp), b3⟩
end Go.Proofs.YtmfopbkhlekhkaaDoor
