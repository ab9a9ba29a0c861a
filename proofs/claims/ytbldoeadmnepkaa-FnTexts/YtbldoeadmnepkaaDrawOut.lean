/- The contracts of the two draws that the law of texts begins with: some texts, and some bytes. -/
import Derived.Test.YtbldoeadmnepkaaDrawTexts
import Derived.Test.YtbldoeadmnepkaaBend
import Derived.Test.YtbldoeadmnepkaaTexts
namespace Go.Proofs.Ytbldoeadmnepkaa
open Go.RowKit
/-- What the draw of the law's texts leaves. -/
def DrawnS (w : World) (e : Ending) (w' : World) : Prop := ∃ (u : Value) (ss : List ByteArray), e = .returned u ∧ OwnS w' w.heap.size u ss ∧ ss.length ≤ 201 ∧ (∀ s ∈ ss, s.size ≤ 3001) ∧ Below w.heap.size w w'
set_option maxHeartbeats 400000 in
set_option maxRecDepth 100000 in
theorem drawTexts_any (v : Value) (bs : List UInt8) (w : World) (hr : Rd w v bs) (hb : bs.length ≤ 4096) :
    Calls Try.prog 18 #[v] w fun e w' => DrawnS w e w' := by
  go_enter Try.func18, Try.ntmps18
  go_wp2_with fail
  refine (l1New_any v bs _ hr hb).mono ?_
  rintro e w1 ⟨g, rfl, hc⟩
  go_wp2_with fail
  refine (l1DrawTexts_any w w1 g hc).mono ?_
  rintro e w2 ⟨u, ss, rfl, ho, hl, hs, hc2, hg2⟩
  have HS : Hid (∀ s ∈ ss, s.size ≤ 3001) := hs
  have hb1 := hc.bel.size
  clear hs
  go_wp2
  go_ret
  exact ⟨u, ss, rfl, ho.mono hb1, hl, HS.out, hc2.bel⟩
/-- What the draw of the law's bytes leaves. -/
def DrawnB (w : World) (e : Ending) (w' : World) : Prop := ∃ (u : Value) (ys : List UInt8), e = .returned u ∧ Wr w' w.heap.size u ys ∧ ys.length ≤ 1048576 ∧ Below w.heap.size w w'
theorem Wr.mono {w : World} {B B' : Nat} {v : Value} {ys : List UInt8} (h : Wr w B v ys) (hB : B' ≤ B) : Wr w B' v ys := by
  rcases h with h | ⟨g, cap, hv, h1, h2⟩
  · exact .inl h
  · exact .inr ⟨g, cap, hv, by omega, h2⟩
set_option maxHeartbeats 1000000 in
set_option maxRecDepth 100000 in
theorem drawReadTexts_any (v : Value) (bs : List UInt8) (w : World) (hr : Rd w v bs) (hb : bs.length ≤ 4096) :
    Calls Try.prog 20 #[v] w fun e w' => DrawnB w e w' := by
  go_enter Try.func20, Try.ntmps20
  go_wp2_with fail
  refine (l1New_any v bs _ hr hb).mono ?_
  rintro e w1 ⟨g, rfl, hc⟩
  go_wp2_with fail
  refine (l1DrawTexts_any w w1 g hc).mono ?_
  rintro e w2 ⟨u, ss, rfl, ho, hl, hs, hc2, hg2⟩
  have HC : Hid (Calls _ _ _ _ _) := specTexts_any u ss w2 ho.rd (fun s h => by have := hs s h; omega)
  have hgs := hg2.size
  have hlt := hc2.lt
  clear hs ho hl hc hg2
  go_wp2_with fail
  refine HC.out.mono ?_
  rintro e w3 ⟨t, rfl, ht, hb3⟩
  have hc3 : DCur w w3 g := hc2.grow (row := none) ⟨hb3.os, hb3.tape, hb3.output, hb3.size, fun k hk _ => hb3.block k hk⟩ (fun k hk => by cases hk)
  have hcv := conv_own ht
  have htl := textsOf_len ss
  have hz : (⟨(textsOf ss).toArray⟩ : ByteArray).size ≤ 700000 := by show (textsOf ss).toArray.size ≤ _; simpa using htl
  generalize (⟨(textsOf ss).toArray⟩ : ByteArray) = s at hcv hz
  clear HC ht hc2 hb3 htl
  go_wp2_with fail
  refine (l1Once_any w _ g 2 hc3 (by omega) (by omega)).mono ?_
  rintro e w4 ⟨b, rfl, hc4, hg4⟩
  clear hcv hc3 hg4
  cases b
  · have hcb := conv_bytes w4 s
    have hw := bytes_new w4 s (by unfold maxLen; omega)
    have hg5 := bytes_grown w4 s none
    have hbel := hc4.bel.grown hg5 hc4.bel.size (fun k hk => by cases hk)
    have hsl : s.data.toList.length ≤ 1048576 := by rw [size_length]; omega
    have hw' := hw.mono hc4.bel.size
    generalize Lib.bytesWorld w4 5 s = W at hcb hw' hbel
    generalize grownCap w4 s.size 0 5 = c0 at hcb hw'
    generalize s.data.toList = ys at hw' hsl
    clear hw hg5
    go_wp2
    go_ret
    exact ⟨_, ys, rfl, hw', hsl, hbel⟩
  · go_wp2_with fail
    refine (l1Bend_any w _ g s _ hc4 (by omega) (by decide) (by decide)).mono ?_
    rintro e w5 ⟨s2, rfl, hs2, hc5, hg5⟩
    have hcb := conv_bytes w5 s2
    have hw := bytes_new w5 s2 (by unfold maxLen; omega)
    have hg6 := bytes_grown w5 s2 none
    have hbel := hc5.bel.grown hg6 hc5.bel.size (fun k hk => by cases hk)
    have hsl : s2.data.toList.length ≤ 1048576 := by rw [size_length]; omega
    have hw' := hw.mono hc5.bel.size
    generalize Lib.bytesWorld w5 5 s2 = W at hcb hw' hbel
    generalize grownCap w5 s2.size 0 5 = c0 at hcb hw'
    generalize s2.data.toList = ys at hw' hsl
    clear hw hg6 hc4 hg5
    go_wp2
    go_ret
    exact ⟨_, ys, rfl, hw', hsl, hbel⟩
end Go.Proofs.Ytbldoeadmnepkaa
