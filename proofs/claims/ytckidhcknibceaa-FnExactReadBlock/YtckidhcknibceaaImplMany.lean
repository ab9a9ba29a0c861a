/- The contracts of the program's readMany at texts and of both ReadTexts over any slice of bytes that can be read. -/
import Derived.Test.YtckidhcknibceaaMany
import Derived.Test.YtckidhcknibceaaCurText
namespace Go.Proofs.Ytckidhcknibceaa
open Go.RowKit
theorem Cur.lt {w0 w : World} {g : Nat} {v : Value} {bs : List UInt8} {p : Nat} (h : Cur w0 w g v bs p) : g < w.heap.size := (Array.getElem?_eq_some_iff.1 h.blk).1
theorem Cur.alloc {w0 w : World} {g : Nat} {v : Value} {bs : List UInt8} {p : Nat} (h : Cur w0 w g v bs p) (o : Obj) : Cur w0 (w.alloc o) g v bs p :=
  ⟨h.rd, h.ge, by rw [Below.heap_alloc w o g h.lt]; exact h.blk, h.bel.alloc (by have := h.ge; have := h.lt; omega) o, h.le⟩
theorem Cur.grow {w0 w w' : World} {g : Nat} {v : Value} {bs : List UInt8} {p : Nat} {row : Option Nat} (h : Cur w0 w g v bs p) (hg : w.grownBy w' row) (hr : ∀ k, row = some k → g < k) : Cur w0 w' g v bs p :=
  ⟨h.rd, h.ge, by rw [hg.block g h.lt (fun e => by have := hr g e.symm; omega)]; exact h.blk, h.bel.grown hg (by have := h.ge; have := h.lt; omega) (fun k hk => by have := hr k hk; have := h.ge; omega), h.le⟩
/-- What readMany leaves: the texts and whether they are there; the cursor stands behind them. -/
def ManyI (w0 w : World) (g : Nat) (v : Value) (bs : List UInt8) (res : Option (List ByteArray × Nat)) (e : Ending) (w' : World) : Prop :=
  ∃ u p', e = .returned (.tuple #[u, .bool res.isSome]) ∧ OwnS w' w.heap.size u (res.elim [] Prod.fst) ∧ Cur w0 w' g v bs p' ∧ ∀ r, res = some r → p' = r.2
theorem manyI_no {w0 w wr : World} {B g : Nat} {v : Value} {bs : List UInt8} {p : Nat} {res : Option (List ByteArray × Nat)} {u : Value} (h : res = none) (ho : OwnS wr B u []) (hB : w.heap.size ≤ B) (hc : Cur w0 wr g v bs p) : ManyI w0 w g v bs res (.returned (.tuple #[u, .bool false])) wr := by
  subst h
  exact ⟨u, p, rfl, ho.mono hB, hc, fun r hr => by cases hr⟩
theorem manyI_yes {w0 w wr : World} {g : Nat} {v : Value} {bs : List UInt8} {p : Nat} {res : Option (List ByteArray × Nat)} {u : Value} {ss : List ByteArray} (h : res = some (ss, p)) (ho : OwnS wr w.heap.size u ss) (hc : Cur w0 wr g v bs p) : ManyI w0 w g v bs res (.returned (.tuple #[u, .bool true])) wr := by
  subst h
  exact ⟨u, p, rfl, ho, hc, fun r hr => by cases hr; rfl⟩
theorem ownS_kept {w w' : World} {B g : Nat} {u : Value} {ss : List ByteArray} (h : OwnS w B u ss) (hg : w.grownBy w' (some g)) (hB : g < B) : OwnS w' B u ss := by
  refine World.ownsRow.kept h hg ?_
  cases hu : u.ownBlock with
  | none => exact .inl rfl
  | some k => exact .inr fun e => by have := (World.ownsRow.lt h k hu).1; simp at e; omega

set_option maxHeartbeats 1000000 in
set_option maxRecDepth 100000 in
theorem readMany_any (w0 w : World) (g : Nat) (v : Value) (bs : List UInt8) (h : Cur w0 w g v bs 0) :
    Calls Try.prog 49 #[.func (.func 50) #[.pointer (some ⟨g, 0, none⟩)] #[], .int .i64 200, .func (.func 51) #[.pointer (some ⟨g, 0, none⟩)] #[]] w fun e w' => ManyI w0 w g v bs (rdAll bs) e w' := by
  have hlen := rdNum_len bs
  obtain ⟨i0, hi, hz0, hz1, hz2⟩ := info_parts Try.info9
  obtain ⟨res, hres⟩ : ∃ res, res = rdAll bs := ⟨_, rfl⟩
  rw [← hres]
  have HN := number_any w0 w g v bs 0 h
  rw [List.drop_zero] at HN
  unfold rdAll at hres
  obtain ⟨R, hR⟩ : ∃ R, R = rdNum bs := ⟨_, rfl⟩
  rw [← hR] at hlen HN hres
  clear hR
  obtain ⟨n, k⟩ := R
  have HR : Hid (res = if k = 0 ∨ 200 < n then none else rdAcc bs n k []) := hres
  have HC : Hid (Calls _ _ _ _ _) := HN
  have hgl := h.lt
  clear HN hres
  simp only at hlen
  by_cases h0 : k = 0
  · have HF : Hid (res = none) := by rw [if_pos (.inl h0)] at HR; exact HR
    clear HR
    go_enter Try.func49, Try.ntmps49
    go_wp2_with fail
    refine HC.out.mono ?_
    rintro e w1 ⟨p1, rfl, hc, hp, hg⟩
    have hb : decide ((n, k).2 ≠ 0) = false := by simp [h0]
    rw [hb]
    have hgs := hg.size
    clear hb hp h0 hg h
    go_wp2
    go_ret2
    exact manyI_no HF.out (ownS_none _) hgs (hc.alloc _)
  have hb : decide ((n, k).2 ≠ 0) = true := by simp [h0]
  by_cases h1 : 200 < n
  · have HF : Hid (res = none) := by rw [if_pos (.inr h1)] at HR; exact HR
    clear HR
    go_enter Try.func49, Try.ntmps49
    go_wp2_with fail
    refine HC.out.mono ?_
    rintro e w1 ⟨p1, rfl, hc, hp, hg⟩
    rw [hb]
    have hgs := hg.size
    clear hb hp hg h
    go_wp2
    go_ret2
    exact manyI_no HF.out (ownS_none _) hgs (hc.alloc _)
  have HF : Hid (res = rdAcc bs n k []) := by rw [if_neg (by omega)] at HR; exact HR
  clear HR
  go_enter Try.func49, Try.ntmps49
  go_wp2_with fail
  refine HC.out.mono ?_
  rintro e w1 ⟨p1, rfl, hc, hp, hg⟩
  rw [hb]
  have hp1 : p1 = k := by rw [hp h0]; simp
  subst hp1
  have hgs := hg.size
  have hst := (ownS_none w1).mono hgs
  have hcst := hc.alloc (.cells #[] 9)
  clear hb hp hg h HC hc
  go_wp2
  go_loopw [10, 28] (fun oo ii wr => ∃ (j p : Nat) (ss : List ByteArray), ii = .int .i64 j ∧ j ≤ n ∧ ss.length = j ∧ OwnS wr w.heap.size oo ss ∧ Cur w0 wr g v bs p ∧ w.heap.size ≤ wr.heap.size ∧ Hid (res = rdAcc bs (n - j) p ss)) (fun _ ii _ => n - (intOf ii).toNat)
  case atStart => exact ⟨0, p1, [], rfl, by omega, rfl, hst, hcst, by simp; omega, HF⟩
  case round =>
    obtain ⟨j, p, ss, rfl, hj, hsl, hown, hc, hs, HR⟩ := hrel
    have Hsl : Hid (ss.length = j) := hsl
    clear hst hcst hsl HF
    by_cases hlt : j < n
    · go_wp2_with fail
      refine (text_any w0 _ g v bs p hc).mono ?_
      obtain ⟨T, hT⟩ : ∃ T, T = rdText (bs.drop p) := ⟨_, rfl⟩
      have hRg := HR.out
      rw [show n - j = (n - (j + 1)) + 1 by omega] at hRg
      have H0 : Hid (T.2 = 0 → res = none) := fun h => hRg.trans (rdAcc_no bs _ p ss (by rw [← hT]; exact h))
      have H1 : Hid (T.2 ≠ 0 → res = rdAcc bs (n - (j + 1)) (p + T.2) (ss ++ [⟨T.1.toArray⟩])) := fun h => hRg.trans ((rdAcc_go bs _ p ss (by rw [← hT]; exact h)).trans (by rw [← hT]))
      rw [← hT]
      clear hT HR hRg
      rintro e w2 ⟨p2, rfl, hc2, hp2, hg2⟩
      have hown2 := ownS_kept hown hg2 hgl
      have hs2 := hg2.size
      by_cases hT0 : T.2 = 0
      · have hb : decide (T.2 ≠ 0) = false := by simp [hT0]
        rw [hb]
        have HF2 : Hid (res = none) := H0.out hT0
        clear hb hT0 hp2 hg2 hown hc H0 H1
        go_wp2
        go_ret2
        exact manyI_no HF2.out (ownS_none _) (by omega) (hc2.alloc _)
      · have hb : decide (T.2 ≠ 0) = true := by simp [hT0]
        rw [hb]
        have HF2 : Hid (res = rdAcc bs (n - (j + 1)) (p + T.2) (ss ++ [⟨T.1.toArray⟩])) := H1.out hT0
        have hpp := hp2 hT0
        subst hpp
        have hLs : ss.length ≤ 200 := by have := Hsl.out; omega
        clear hb hT0 hp2 hg2 hown hc H0 H1
        go_wp2_with (at_builtin; (refine wpList_append_own _ rfl _ _ 25 rfl w.heap.size 9 i0 (.string ⟨#[]⟩) 1 16 Try.underlying25 hi hz0 hz1 hz2 rfl (by decide) _ _ _ rfl (World.ownsRow.alloc hown2 _) ⟨w2.heap.size, 0, none⟩ 1 1 [.string ⟨T.1.toArray⟩] rfl rfl ?c1 ?c2 ?c3 ?c4 ?c5 ?_))
        case c1 => exact one_newS _ _ _
        case c2 => intro u hu; simp at hu; subst hu; rfl
        case c3 => unfold maxLen; omega
        case c4 => omega
        case c5 => simp; omega
        intro v' w3 hown' hgrow _
        have R1 := ownS_push hown'
        have R2 := (hc2.alloc _).grow hgrow (fun k hk => by have := (World.ownsRow.lt hown2 k hk).1; omega)
        have R3 : w.heap.size ≤ w3.heap.size := by have := hgrow.size; simp at this; omega
        clear hown' hgrow hown2 hc2
        go_wp2
        go_roundw
        case rel => exact ⟨j + 1, p + T.2, _, by go_num, by omega, by rw [List.length_append, Hsl.out]; simp, R1, R2, R3, HF2⟩
        case measure => simp [intOf]; omega
    · have hje : j = n := by omega
      subst hje
      have HF2 : Hid (res = some (ss, p)) := by have h := HR.out; rw [Nat.sub_self] at h; exact h
      go_wp2
      go_ret2
      exact manyI_yes HF2.out hown hc
end Go.Proofs.Ytckidhcknibceaa
