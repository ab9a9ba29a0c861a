/- The contract of the program's Seen. -/
import Derived.Test.YthaobdknpgnapaaEntSpecSeen
import Derived.Test.YthaobdknpgnapaaEntFind
namespace Go.Proofs.Ythaobdknpgnapaa
open Go.RowKit
theorem implOk_yes (v : Value) (es : List Ent) (w : World) (hr : RdE w v es) (hf : ∀ e ∈ es, Fits e) (h : okL es = true) :
    Calls Try.prog 14 #[v] w fun e w' => e = .returned (.bool true) ∧ Below w.heap.size w w' := by
  have := implEntriesOk_any v es w hr hf; rwa [h] at this
theorem implOk_no (v : Value) (es : List Ent) (w : World) (hr : RdE w v es) (hf : ∀ e ∈ es, Fits e) (h : okL es = false) :
    Calls Try.prog 14 #[v] w fun e w' => e = .returned (.bool false) ∧ Below w.heap.size w w' := by
  have := implEntriesOk_any v es w hr hf; rwa [h] at this
set_option maxHeartbeats 1000000 in
set_option maxRecDepth 100000 in
theorem seenIn_any (v : Value) (es : List Ent) (key : ByteArray) (q : Int) (w : World) (hr : RdE w v es) (hok : okL es = true) :
    Calls Try.prog 50 #[v, .string key, .int .i64 q] w fun e w' => SeenPost w (seenL es key q) e w' := by
  obtain ⟨a, cap, hv, hl, hm, _⟩ := id hr
  unfold maxLen at hm
  subst hv
  have hz := box_zero w 26
  have hz1 := below1 w (.cells #[.string ⟨#[]⟩, .string ⟨#[]⟩, .int .i64 0, .bool false] 26)
  have hr2 := hr.below hz1
  have hlen := okL_len hok
  have RES := seen_at hok key q ⟨key, ⟨#[]⟩, q, false⟩ rfl rfl
  obtain ⟨p, hp⟩ : ∃ p, p = atE es ⟨key, ⟨#[]⟩, q, false⟩ := ⟨_, rfl⟩
  have hpl : p ≤ es.length := by rw [hp]; exact atE_le _ _
  obtain ⟨h0, hh0⟩ : ∃ h0, h0 = hasKS es ⟨key, ⟨#[]⟩, q, false⟩ := ⟨_, rfl⟩
  rw [← hp] at RES
  have HP : Hid (∀ u w', RdE w' u es → Calls Try.prog 45 #[u, .string key, .int .i64 q] w' fun e w'' => e = .returned (.tuple #[.int .i64 (p : Nat), .bool h0]) ∧ Below w'.heap.size w' w'') := fun u w' h => by rw [hp, hh0]; exact placeOf_any u es key q w' h hok
  have RES2 : Hid (seenL es key q = if p < es.length ∧ (nth es p).key = key then some (nth es p) else none) := RES
  clear hp hh0 RES
  by_cases hpn : p < es.length
  · have hpe : ((p : Int) == (es.length : Int)) = false := by simp; omega
    obtain ⟨y, hy⟩ : ∃ y, y = nth es p := ⟨_, rfl⟩
    have KB := beq_kEq y.key key
    cases hke : kEq y.key key with
    | false =>
      rw [hke] at KB
      have RES : Hid (seenL es key q = none) := by
        unfold Hid
        rw [RES2.out, if_neg]
        rintro ⟨_, h⟩
        rw [← hy] at h
        simp [kEq, h] at hke
      go_enter Try.func50, Try.ntmps50
      go_wp2_with fail
      refine (HP.out _ _ hr2).mono ?_
      rintro e w2 ⟨rfl, hb2⟩
      obtain ⟨z0, z1, z2, z3, f0, f1, f2, f3⟩ := (hz.below hb2).facts
      have bz := hz1.trans (hb2.mono (by simp))
      obtain ⟨b, off, rfl, hc⟩ := (hr2.below hb2).at rfl p hpn
      rw [← hy] at hc
      obtain ⟨c0, c1, c2, c3⟩ := hc
      clear hz hb2 hz1 hy hr2
      go_wp2
      exact bodyPost_ret (v := .tuple #[.agg #[.string ⟨#[]⟩, .string ⟨#[]⟩, .int .i64 0, .bool false], .bool false]) (by simp [results, Try.results50, go_sem, z0, z1, z2, z3]) rfl (seenPost_none RES.out (below4 bz (Nat.le_refl _) _ _ _ _ _ _ _ _))
    | true =>
      rw [hke] at KB
      have RES : Hid (seenL es key q = some y) := by
        unfold Hid
        rw [RES2.out, if_pos ⟨hpn, by rw [← hy]; unfold kEq at hke; exact of_decide_eq_true hke⟩, ← hy]
      go_enter Try.func50, Try.ntmps50
      go_wp2_with fail
      refine (HP.out _ _ hr2).mono ?_
      rintro e w2 ⟨rfl, hb2⟩
      obtain ⟨z0, z1, z2, z3, f0, f1, f2, f3⟩ := (hz.below hb2).facts
      have bz := hz1.trans (hb2.mono (by simp))
      obtain ⟨b, off, rfl, hc⟩ := (hr2.below hb2).at rfl p hpn
      rw [← hy] at hc
      obtain ⟨c0, c1, c2, c3⟩ := hc
      clear hz hb2 hz1 hy hr2
      go_wp2
      exact bodyPost_ret (v := .tuple #[.agg #[.string y.key, .string y.val, .int .i64 y.seq, .bool y.gone], .bool true]) (by simp [results, Try.results50, go_sem, z0, z1, z2, z3]) rfl (seenPost_some RES.out (below4 bz (Nat.le_refl _) _ _ _ _ _ _ _ _))
  · have hpe : ((p : Int) == (es.length : Int)) = true := by simp; omega
    have RES : Hid (seenL es key q = none) := by unfold Hid; rw [RES2.out, if_neg (fun h => hpn h.1)]
    go_enter Try.func50, Try.ntmps50
    go_wp2_with fail
    refine (HP.out _ _ hr2).mono ?_
    rintro e w2 ⟨rfl, hb2⟩
    obtain ⟨z0, z1, z2, z3, f0, f1, f2, f3⟩ := (hz.below hb2).facts
    have bz := hz1.trans (hb2.mono (by simp))
    clear hz hb2 hz1 hr2
    go_wp2
    exact bodyPost_ret (v := .tuple #[.agg #[.string ⟨#[]⟩, .string ⟨#[]⟩, .int .i64 0, .bool false], .bool false]) (by simp [results, Try.results50, go_sem, z0, z1, z2, z3]) rfl (seenPost_none RES.out (below4 bz (Nat.le_refl _) _ _ _ _ _ _ _ _))
set_option maxHeartbeats 1000000 in
set_option maxRecDepth 100000 in
theorem implSeen_any (v : Value) (es : List Ent) (key : ByteArray) (q : Int) (w : World) (hr : RdE w v es) (hf : ∀ e ∈ es, Fits e) :
    Calls Try.prog 11 #[v, .string key, .int .i64 q] w fun e w' => SeenPost w (seenA es key q) e w' := by
  obtain ⟨a, cap, hv, hl, hm, _⟩ := id hr
  unfold maxLen at hm
  subst hv
  have hz := box_zero w 26
  have hz1 := below1 w (.cells #[.string ⟨#[]⟩, .string ⟨#[]⟩, .int .i64 0, .bool false] 26)
  have hr2 := hr.below hz1
  cases hok : okL es with
  | false =>
    have RES : Hid (seenA es key q = none) := by unfold Hid seenA; simp [hok]
    go_enter Try.func11, Try.ntmps11
    go_wp2_with fail
    refine (implOk_no _ es _ hr2 hf hok).mono ?_
    rintro e w1 ⟨rfl, hb1⟩
    obtain ⟨z0, z1, z2, z3, f0, f1, f2, f3⟩ := (hz.below hb1).facts
    have bz := hz1.trans (hb1.mono (by simp))
    clear hz hb1
    go_wp2
    exact bodyPost_ret (v := .tuple #[.agg #[.string ⟨#[]⟩, .string ⟨#[]⟩, .int .i64 0, .bool false], .bool false]) (by simp [results, Try.results11, go_sem, z0, z1, z2, z3]) rfl (seenPost_none RES.out (below4 bz (Nat.le_refl _) _ _ _ _ _ _ _ _))
  | true =>
    have RES : seenA es key q = seenL es key q := by unfold seenA; rw [if_pos hok]
    rw [RES]
    have HS : Hid (∀ u W, RdE W u es → Calls Try.prog 50 #[u, .string key, .int .i64 q] W fun e w' => SeenPost W (seenL es key q) e w') := fun u W h => seenIn_any u es key q W h hok
    clear RES
    generalize seenL es key q = o at HS ⊢
    obtain ⟨x, hx⟩ : ∃ x, x = o.getD zeroE := ⟨_, rfl⟩
    obtain ⟨y, hy⟩ : ∃ y, y = o.isSome := ⟨_, rfl⟩
    unfold SeenPost at HS ⊢
    rw [← hx, ← hy] at HS ⊢
    clear hx hy
    go_enter Try.func11, Try.ntmps11
    go_wp2_with fail
    refine (implOk_yes _ es _ hr2 hf hok).mono ?_
    rintro e w1 ⟨rfl, hb1⟩
    have hr3 := hr2.below hb1
    have hy1 := hz.below hb1
    have bz1 := hz1.trans (hb1.mono (by simp))
    clear hz hb1 hr2
    go_wp2_with fail
    refine (HS.out _ _ hr3).mono ?_
    rintro e w2 ⟨rfl, hb2⟩
    obtain ⟨z0, z1, z2, z3, f0, f1, f2, f3⟩ := (hy1.below hb2).facts
    have bz := bz1.trans (hb2.mono bz1.size)
    clear hy1 hb2 bz1 HS
    go_wp2
    exact bodyPost_ret (v := .tuple #[.agg #[.string x.key, .string x.val, .int .i64 x.seq, .bool x.gone], .bool y]) (by simp [results, Try.results11, go_sem, z0, z1, z2, z3]) rfl ⟨rfl, below4 bz (Nat.le_refl _) _ _ _ _ _ _ _ _⟩
end Go.Proofs.Ythaobdknpgnapaa
