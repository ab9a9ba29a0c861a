/- The contracts of the model's Seen and Shown. -/
import Derived.Test.YthaobdknpgnapaaEntSpecOk
namespace Go.Proofs.Ythaobdknpgnapaa
open Go.RowKit
/-- What a function that sees leaves: the entry and true, or the zero entry and false. -/
def SeenPost (w : World) (o : Option Ent) (e : Ending) (w' : World) : Prop :=
  e = .returned (.tuple #[.agg #[.string (o.getD zeroE).key, .string (o.getD zeroE).val, .int .i64 (o.getD zeroE).seq, .bool (o.getD zeroE).gone], .bool o.isSome]) ∧ Below w.heap.size w w'
theorem seenPost_some {w w' : World} {o : Option Ent} {x : Ent} (ho : o = some x) (hb : Below w.heap.size w w') : SeenPost w o (.returned (.tuple #[.agg #[.string x.key, .string x.val, .int .i64 x.seq, .bool x.gone], .bool true])) w' := by
  subst ho; exact ⟨rfl, hb⟩
theorem seenPost_none {w w' : World} {o : Option Ent} (ho : o = none) (hb : Below w.heap.size w w') : SeenPost w o (.returned (.tuple #[.agg #[.string ⟨#[]⟩, .string ⟨#[]⟩, .int .i64 0, .bool false], .bool false])) w' := by
  subst ho; exact ⟨rfl, hb⟩
set_option maxHeartbeats 1000000 in
set_option maxRecDepth 100000 in
theorem l3Seen_any (v : Value) (es : List Ent) (key : ByteArray) (q : Int) (w : World) (hr : RdE w v es) :
    Calls Try.prog 55 #[v, .string key, .int .i64 q] w fun e w' => SeenPost w (seenL es key q) e w' := by
  obtain ⟨a, cap, hv, hl, hm, _⟩ := id hr
  unfold maxLen at hm
  subst hv
  go_enter Try.func55, Try.ntmps55
  go_wp2
  go_loop [8] (fun i => ∃ k : Nat, k ≤ es.length ∧ i = .int .i64 k ∧ Hid (∀ j, j < k → seenP key q (nth es j) = false)) (fun i => es.length - (intOf i).toNat)
  case atStart => exact ⟨0, Nat.zero_le _, rfl, fun j hj => absurd hj (Nat.not_lt_zero _)⟩
  case round =>
    obtain ⟨k, hk, rfl, HO⟩ := hrel
    by_cases hlt : k < es.length
    · obtain ⟨b, off, rfl, hc⟩ := hr.at rfl k hlt
      have hlt2 := hc.lt
      obtain ⟨c0, c1, c2, c3⟩ := hc
      obtain ⟨x, hx⟩ : ∃ x, x = nth es k := ⟨_, rfl⟩
      rw [← hx] at c0 c1 c2 c3
      have HX : Hid (x = nth es k) := hx
      clear hx
      have KB := beq_kEq x.key key
      cases hke : kEq x.key key with
      | false =>
        rw [hke] at KB
        have HO2 : Hid (∀ j, j < k + 1 → seenP key q (nth es j) = false) := by
          intro j hj
          by_cases hjk : j = k
          · subst hjk; rw [← HX.out]; simp [seenP, hke]
          · exact HO.out j (by omega)
        go_wp2
        go_round
        case rel => exact ⟨k + 1, by omega, by go_num, HO2⟩
        case measure => simp [intOf]; omega
      | true =>
        rw [hke] at KB
        by_cases hq : x.seq ≤ q
        · have RES : Hid (seenL es key q = some x) := by
            show _ = _
            rw [seenL_scan es key q k hlt HO.out (by rw [← HX.out]; simp [seenP, hke, hq]), ← HX.out]
          go_wp2
          exact bodyPost_ret (v := .tuple #[.agg #[.string x.key, .string x.val, .int .i64 x.seq, .bool x.gone], .bool true]) (by simp [results, Try.results55, go_sem]) rfl (seenPost_some RES.out (below1 _ _))
        · have HO2 : Hid (∀ j, j < k + 1 → seenP key q (nth es j) = false) := by
            intro j hj
            by_cases hjk : j = k
            · subst hjk; rw [← HX.out]; simp [seenP, hq]
            · exact HO.out j (by omega)
          go_wp2
          go_round
          case rel => exact ⟨k + 1, by omega, by go_num, HO2⟩
          case measure => simp [intOf]; omega
    · have hke : k = es.length := by omega
      subst hke
      have RES : Hid (seenL es key q = none) := seenL_none es key q HO.out
      go_wp2
      exact bodyPost_ret (v := .tuple #[.agg #[.string ⟨#[]⟩, .string ⟨#[]⟩, .int .i64 0, .bool false], .bool false]) (by simp [results, Try.results55, go_sem]) rfl (seenPost_none RES.out (below1 _ _))
theorem specOk_yes (v : Value) (es : List Ent) (w : World) (hr : RdE w v es) (hf : ∀ e ∈ es, Fits e) (h : okL es = true) :
    Calls Try.prog 15 #[v] w fun e w' => e = .returned (.bool true) ∧ Below w.heap.size w w' := by
  have := specEntriesOk_any v es w hr hf; rwa [h] at this
theorem specOk_no (v : Value) (es : List Ent) (w : World) (hr : RdE w v es) (hf : ∀ e ∈ es, Fits e) (h : okL es = false) :
    Calls Try.prog 15 #[v] w fun e w' => e = .returned (.bool false) ∧ Below w.heap.size w w' := by
  have := specEntriesOk_any v es w hr hf; rwa [h] at this
/-- A result of the call's own: an entry in a block that is its own. -/
def BoxAt (w : World) (b : Nat) (x : Ent) : Prop := EntAt w b 0 x ∧ ∀ o, w.frozen? ⟨b, o, none⟩ = false
theorem BoxAt.below {w w' : World} {b : Nat} {x : Ent} (h : BoxAt w b x) (hb : Below w.heap.size w w') : BoxAt w' b x :=
  ⟨h.1.below hb, fun o => ((bcell hb).2 b o h.1.lt).trans (h.2 o)⟩
theorem box_zero (w : World) (t : TypeId) : BoxAt (w.alloc (.cells #[.string ⟨#[]⟩, .string ⟨#[]⟩, .int .i64 0, .bool false] t)) w.heap.size zeroE :=
  ⟨⟨by simp [zeroE], by simp [zeroE], by simp [zeroE], by simp [zeroE]⟩, fun o => by simp⟩
theorem BoxAt.facts {w : World} {b : Nat} {x : Ent} (h : BoxAt w b x) : w.cell? ⟨b, 0, none⟩ = some (.string x.key) ∧ w.cell? ⟨b, 1, none⟩ = some (.string x.val) ∧ w.cell? ⟨b, 2, none⟩ = some (.int .i64 x.seq) ∧ w.cell? ⟨b, 3, none⟩ = some (.bool x.gone) ∧
    w.frozen? ⟨b, 0, none⟩ = false ∧ w.frozen? ⟨b, 1, none⟩ = false ∧ w.frozen? ⟨b, 2, none⟩ = false ∧ w.frozen? ⟨b, 3, none⟩ = false := by
  obtain ⟨⟨h0, h1, h2, h3⟩, hf⟩ := h
  simp only [Nat.zero_add] at h1 h2 h3
  exact ⟨h0, h1, h2, h3, hf 0, hf 1, hf 2, hf 3⟩
theorem l3Seen_at (v : Value) (es : List Ent) (key : ByteArray) (q : Int) (x : Ent) (s : Bool) (w : World) (hr : RdE w v es) (hx : (seenL es key q).getD zeroE = x) (hs : (seenL es key q).isSome = s) :
    Calls Try.prog 55 #[v, .string key, .int .i64 q] w fun e w' => e = .returned (.tuple #[.agg #[.string x.key, .string x.val, .int .i64 x.seq, .bool x.gone], .bool s]) ∧ Below w.heap.size w w' := by
  have := l3Seen_any v es key q w hr
  unfold SeenPost at this
  rwa [hx, hs] at this
theorem below4 {B : Nat} {w0 w : World} (h : Below B w0 w) {g : Nat} (hg : B ≤ g) (a b c d : Value) (i j k l : Nat) : Below B w0 ((((w.setCell ⟨g, i, none⟩ a).setCell ⟨g, j, none⟩ b).setCell ⟨g, k, none⟩ c).setCell ⟨g, l, none⟩ d) :=
  (((h.setCell (by exact hg) _).setCell (by exact hg) _).setCell (by exact hg) _).setCell (by exact hg) _
set_option maxHeartbeats 1000000 in
set_option maxRecDepth 100000 in
theorem specSeen_any (v : Value) (es : List Ent) (key : ByteArray) (q : Int) (w : World) (hr : RdE w v es) (hf : ∀ e ∈ es, Fits e) :
    Calls Try.prog 16 #[v, .string key, .int .i64 q] w fun e w' => SeenPost w (seenA es key q) e w' := by
  have hz := box_zero w 26
  have hz1 := below1 w (.cells #[.string ⟨#[]⟩, .string ⟨#[]⟩, .int .i64 0, .bool false] 26)
  have hr2 := hr.below hz1
  cases hok : okL es with
  | false =>
    have RES : Hid (seenA es key q = none) := by unfold Hid seenA; simp [hok]
    go_enter Try.func16, Try.ntmps16
    go_wp2_with fail
    refine (specOk_no v es _ hr2 hf hok).mono ?_
    rintro e w1 ⟨rfl, hb1⟩
    obtain ⟨z0, z1, z2, z3, f0, f1, f2, f3⟩ := (hz.below hb1).facts
    have bz := hz1.trans (hb1.mono (by simp))
    clear hz hb1
    go_wp2
    exact bodyPost_ret (v := .tuple #[.agg #[.string ⟨#[]⟩, .string ⟨#[]⟩, .int .i64 0, .bool false], .bool false]) (by simp [results, Try.results16, go_sem, z0, z1, z2, z3]) rfl (seenPost_none RES.out (below4 bz (Nat.le_refl _) _ _ _ _ _ _ _ _))
  | true =>
    have RES : Hid (seenA es key q = seenL es key q) := by unfold Hid seenA; simp [hok]
    obtain ⟨x, hx⟩ : ∃ x, (seenL es key q).getD zeroE = x := ⟨_, rfl⟩
    obtain ⟨s, hs⟩ : ∃ s, (seenL es key q).isSome = s := ⟨_, rfl⟩
    have HX : Hid ((seenL es key q).getD zeroE = x) := hx
    have HS : Hid ((seenL es key q).isSome = s) := hs
    clear hx hs
    go_enter Try.func16, Try.ntmps16
    go_wp2_with fail
    refine (specOk_yes v es _ hr2 hf hok).mono ?_
    rintro e w1 ⟨rfl, hb1⟩
    have hr3 := hr2.below hb1
    have hy1 := hz.below hb1
    have bz1 := hz1.trans (hb1.mono (by simp))
    clear hz hb1 hr2
    go_wp2_with fail
    refine (l3Seen_at v es key q x s _ hr3 HX.out HS.out).mono ?_
    rintro e w2 ⟨rfl, hb2⟩
    obtain ⟨z0, z1, z2, z3, f0, f1, f2, f3⟩ := (hy1.below hb2).facts
    have bz := bz1.trans (hb2.mono bz1.size)
    clear hy1 hb2 bz1
    go_wp2
    refine bodyPost_ret (v := .tuple #[.agg #[.string x.key, .string x.val, .int .i64 x.seq, .bool x.gone], .bool s]) (by simp [results, Try.results16, go_sem, z0, z1, z2, z3]) rfl ⟨?_, below4 bz (Nat.le_refl _) _ _ _ _ _ _ _ _⟩
    rw [RES.out, HX.out, HS.out]
end Go.Proofs.Ythaobdknpgnapaa
