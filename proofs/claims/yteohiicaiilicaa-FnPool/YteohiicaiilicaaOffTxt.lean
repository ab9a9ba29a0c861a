/- The contracts of the program's firstTexts and Chosen. -/
-- UNF Gen
import Derived.Test.YteohiicaiilicaaOffTak
import Derived.Test.YteohiicaiilicaaStrMark
namespace Go.Proofs.Yteohiicaiilicaa
open Go.RowKit
def lenV : Value → Nat
  | .slice _ n _ => n
  | _ => 0
theorem one_newO (w : World) (x : Value) (t : TypeId) : ∀ j u, [x][j]? = some u → (w.alloc (.cells #[x] t)).cell? ((⟨w.heap.size, 0, none⟩ : Addr).add j) = some u := by
  intro j u hj
  match j, hj with
  | 0, hj => simp at hj; subst hj; simp [Addr.add]
theorem ownS_shape {w : World} {B n c : Nat} {a : Option Addr} {ss : List ByteArray} (h : OwnS w B (.slice a n c) ss) : n = ss.length := by
  rcases h.2 with ⟨hv, h0⟩ | ⟨g, cap, cur, hv, _⟩
  · simp only [Value.slice.injEq] at hv; omega
  · simp only [Value.slice.injEq] at hv; exact hv.2.1
theorem ownS_slice {w : World} {B : Nat} {v : Value} {ss : List ByteArray} (h : OwnS w B v ss) : ∃ a n c, v = .slice a n c := by
  rcases h.2 with ⟨hv, _⟩ | ⟨g, cap, cur, hv, _⟩
  · exact ⟨_, _, _, hv⟩
  · exact ⟨_, _, _, hv⟩
theorem ownS_hop {w w' : World} {B sb : Nat} {a : Option Addr} {v : Value} {ss : List ByteArray} (h : OwnS w B v ss) (hop : OHop w a sb w') (hs : sb < B) (hr : ∀ k, (Value.slice a 0 0).ownBlock = some k → k < B) : OwnS w' B v ss := by
  refine ⟨h.1, ?_⟩
  rcases h.2 with h2 | ⟨g, cap, cur, hv, hg, hh, r⟩
  · exact .inl h2
  · refine .inr ⟨g, cap, cur, hv, hg, ?_, r⟩
    rw [hop.block g (World.ownsRow.lt h g (by rw [hv]; rfl)).2 (by omega) (fun e => by have := hr g e; omega)]
    exact hh
/-- What firstTexts leaves. -/
def TxPost (w0 w : World) (ts : List ByteArray) (e : Ending) (w' : World) : Prop := ∃ u, e = .returned u ∧ OwnS w' w.heap.size u ts ∧ Below w0.heap.size w0 w'
set_option maxHeartbeats 4000000 in
set_option maxRecDepth 100000 in
theorem firstTexts_any (w0 w : World) (sb n cap c0 : Nat) (a : Option Addr) (es : List Off) (nn : Int) (h : OHp w0 w sb a n cap c0 es) :
    Calls Try.prog 43 #[.func (.func 42) #[.pointer (some ⟨sb, 0, none⟩)] #[], .int .i64 nn] w fun e w' => TxPost w0 w (chL (min nn.toNat es.length) es) e w' := by
  obtain ⟨i0, hi, hz0, hz1, hz2⟩ := info_parts Try.info9
  obtain ⟨TS, hTS⟩ : ∃ TS, TS = chL (min nn.toNat es.length) es := ⟨_, rfl⟩
  obtain ⟨K, hK⟩ : ∃ K, K = min nn.toNat es.length := ⟨_, rfl⟩
  rw [← hTS]
  rw [← hK] at hTS
  have hsb := h.lt
  have hrw : ∀ k, (Value.slice a 0 0).ownBlock = some k → k < w.heap.size := fun k hk => (World.ownsRow.lt h.own k (by rw [ownBlock_any a _ _ 0 0]; exact hk)).2
  have hL := h.len
  have hf := h.few
  have hK1 : K ≤ n := by omega
  have hn51 : n ≤ 51 := by omega
  have HK2 : Hid (∀ k : Nat, nn ≤ (k : Int) → k ≤ K → k = K) := fun k h1 h2 => by omega
  have HK3 : Hid (∀ k : Nat, (k : Int) < nn → k < n → k < K) := fun k h1 h2 => by omega
  have hwb := h.bel.size
  have hst := ownS_none w
  have h1 := h.below (below1 w (.cells #[] 9))
  clear hK hL
  go_enter Try.func43, Try.ntmps43
  go_wp2
  go_loopw [5] (fun tv wr => ∃ (ss : List ByteArray) (es1 : List Off) (n1 cap1 : Nat), OwnS wr w.heap.size tv ss ∧ OHp w0 wr sb a n1 cap1 c0 es1 ∧ ss.length ≤ K ∧ n1 + ss.length = n ∧ Hid (ss ++ chL (K - ss.length) es1 = TS) ∧ w.heap.size ≤ wr.heap.size) (fun tv _ => n - lenV tv)
  case atStart => exact ⟨[], es, n, cap, hst, h1, Nat.zero_le _, rfl, by rw [hTS]; rfl, by simp⟩
  case round =>
    obtain ⟨ss, es1, n1, cap1, hos, hp, hsk, hns, HT, hsz⟩ := hrel
    clear h hst h1 hTS
    obtain ⟨ta, tk, tc, rfl⟩ := ownS_slice hos
    have htk := ownS_shape hos
    have HSL : Hid (ss.length = tk) := htk.symm
    rw [← htk] at hsk hns HT
    clear htk
    by_cases hlt : (tk : Int) < nn
    · cases n1 with
      | zero =>
        have HE : Hid (ss = TS) := by
          unfold Hid
          have h := HT.out
          rw [show K - tk = 0 by omega] at h
          simpa [chL] using h
        go_wp2_with fail
        refine (otake_no w0 _ sb cap1 c0 a es1 hp).mono ?_
        rintro e w2 ⟨rfl, h2, hop⟩
        have ho2 := ownS_hop hos hop hsb hrw
        have HF : Hid (TxPost w0 w TS (.returned (.slice ta tk tc)) (w2.alloc (.cells #[.int .i64 0, .string ⟨#[]⟩] 26))) := ⟨_, rfl, by rw [← HE.out]; exact ho2.below (below1 _ _), h2.bel.alloc h2.bel.size _⟩
        clear h2 hop ho2 hp hos
        go_wp2
        go_ret
        exact HF.out
      | succ m =>
        have hkK : tk < K := HK3.out tk hlt (by omega)
        obtain ⟨x, hx⟩ : ∃ x, x = nthO es1 0 := ⟨_, rfl⟩
        have HT2 : Hid ((ss ++ [x.text]) ++ chL (K - (tk + 1)) (nxtL es1) = TS) := by
          unfold Hid
          have h := HT.out
          rw [show K - tk = (K - (tk + 1)) + 1 by omega, chL] at h
          rw [hx]
          simpa using h
        go_wp2_with fail
        refine (otake_yes w0 _ sb m cap1 c0 a es1 hp).mono ?_
        rw [← hx]
        rintro e w2 ⟨rfl, h2, hop⟩
        have ho2 := ownS_hop hos hop hsb hrw
        have hs2 := hop.size
        have h3 := h2.below (below1 w2 (.cells #[.int .i64 x.fee, .string x.text] 26))
        have ho3 := ho2.below (below1 w2 (.cells #[.int .i64 x.fee, .string x.text] 26))
        have hszE : (w2.alloc (.cells #[.int .i64 x.fee, .string x.text] 26)).heap.size = w2.heap.size + 1 := by simp
        have hLs : ss.length ≤ 51 := by have := HSL.out; omega
        clear h2 hop ho2 hp hos hx
        go_wp2_with (at_builtin; (refine wpList_append_own _ rfl _ _ 36 rfl w.heap.size 9 i0 (.string ⟨#[]⟩) 1 16 Try.underlying36 hi hz0 hz1 hz2 rfl (by decide) _ _ _ rfl (World.ownsRow.alloc ho3 _) ⟨w2.heap.size + 1, 0, none⟩ 1 1 [.string x.text] rfl rfl ?c1 ?c2 ?c3 ?c4 ?c5 ?_))
        case c1 => rw [← hszE]; exact one_newO _ _ _
        case c2 => intro u hu; simp at hu; subst hu; rfl
        case c3 => unfold maxLen; omega
        case c4 => omega
        case c5 => simp; omega
        intro v' w3 hown' hgrow _
        have R1 := ownS_push hown'
        have h4 := h3.below (below1 _ (.cells #[.string x.text] 9))
        have hne : ∀ k, (Value.slice ta tk tc).ownBlock = some k → w.heap.size ≤ k := fun k hk => (World.ownsRow.lt ho3 k hk).1
        have R2 : OHp w0 w3 sb a m m c0 (nxtL es1) := h4.other (h4.bel.grown hgrow h4.bel.size (fun k hk => by have := hne k hk; omega)) (hgrow.block sb h4.lt (fun e => by have := hne sb e.symm; omega)) (fun k hk => hgrow.block k (World.ownsRow.lt h4.own k hk).2 (fun e => by have := hne k e.symm; have := hrw k (by rw [ownBlock_any a 0 0 m c0]; exact hk); omega))
        have R3 : w.heap.size ≤ w3.heap.size := by have := hgrow.size; simp at this; omega
        clear hown' hgrow h3 h4 ho3 hne
        obtain ⟨ua, un, uc, rfl⟩ := ownS_slice R1
        have hun := ownS_shape R1
        rw [List.length_append, HSL.out, List.length_singleton] at hun
        subst hun
        go_wp2
        go_roundw
        case rel => exact ⟨_, _, m, m, R1, R2, by rw [List.length_append, HSL.out]; simp; omega, by rw [List.length_append, HSL.out]; simp; omega, by rw [List.length_append, HSL.out]; exact HT2, R3⟩
        case measure => simp [lenV]; omega
    · have HE : Hid (TxPost w0 w TS (.returned (.slice ta tk tc)) wr) := ⟨_, rfl, by
        have h := HT.out
        rw [HK2.out tk (by omega) hsk, Nat.sub_self] at h
        have h2 : ss = TS := by simpa [chL] using h
        rw [← h2]; exact hos, hp.bel⟩
      clear hp hos
      go_wp2
      go_ret
      exact HE.out
/-- What both Chosen tell. -/
def ChoRes (es : List Off) (nn : Int) (w : World) (e : Ending) (w' : World) : Prop := ∃ u, e = .returned u ∧ OwnS w' w.heap.size u (choR es nn) ∧ Below w.heap.size w w'
set_option maxHeartbeats 4000000 in
set_option maxRecDepth 100000 in
theorem implChosen_any (v : Value) (es : List Off) (nn : Int) (w : World) (hr : RdO w v es) (hf : ∀ e ∈ es, e.text.size ≤ maxLen) :
    Calls Try.prog 14 #[v, .int .i64 nn] w fun e w' => ChoRes es nn w e w' := by
  obtain ⟨P, hP⟩ : ∃ P, P = poolOk es := ⟨_, rfl⟩
  have HC : Hid (Calls Try.prog 17 #[v] w fun e w' => e = .returned (.bool P) ∧ Below w.heap.size w w') := by rw [hP]; exact implPoolOk_any v es w hr hf
  have HR : Hid (choR es nn = if P = true then chL (min nn.toNat es.length) es else []) := by unfold Hid choR; rw [hP]
  have HL : Hid (P = true → es.length ≤ 50) := fun h => (poolOk_iff.1 (hP.symm.trans h)).1
  clear hP hf
  cases P with
  | false =>
    go_enter Try.func14, Try.ntmps14
    go_wp2_with fail
    refine HC.out.mono ?_
    rintro e w1 ⟨rfl, hb1⟩
    go_wp2
    go_ret
    exact ⟨_, rfl, by rw [HR.out]; exact (ownS_none w1).mono hb1.size, hb1.alloc hb1.size _⟩
  | true =>
    have hl := HL.out rfl
    have HR2 : Hid (choR es nn = chL (min nn.toNat es.length) es) := HR.out
    go_enter Try.func14, Try.ntmps14
    go_wp2_with fail
    refine HC.out.mono ?_
    rintro e w1 ⟨rfl, hb1⟩
    have hr1 := hr.below hb1
    go_wp2_with fail
    refine (offersOf_any _ es _ hr1 (by omega)).mono ?_
    rintro e w2 ⟨sb, a, n, cap, rfl, h2⟩
    have hs2 := h2.bel.size
    go_wp2_with fail
    refine (firstTexts_any w1 _ sb n cap cap a es nn h2).mono ?_
    rintro e w3 ⟨u, rfl, ho3, hb3⟩
    have HE : Hid (ChoRes es nn w (.returned u) w3) := ⟨u, rfl, by rw [HR2.out]; exact ho3.mono (Nat.le_trans hb1.size hs2), hb1.trans (hb3.mono hb1.size)⟩
    clear h2 ho3 hb3 hb1 hr1
    go_wp2
    go_ret
    exact HE.out
end Go.Proofs.Yteohiicaiilicaa
