/- The contracts of the three draws that the law of packing begins with: some entries, some bytes, two texts. -/
import Derived.Test.YtnmjkbpoioadmaaDrawAny
import Derived.Test.YtnmjkbpoioadmaaDrawHelp
import Derived.Test.YtnmjkbpoioadmaaBend
import Derived.Test.YtnmjkbpoioadmaaPackSpec
namespace Go.Proofs.Ytnmjkbpoioadmaa
open Go.RowKit
/-- What the draw of the law's entries leaves. -/
def DrawnE (w : World) (e : Ending) (w' : World) : Prop :=
  ∃ (v : Value) (es : List Ent), e = .returned v ∧ OwnE w' w.heap.size v es ∧ es.length ≤ 400 ∧ (∀ x ∈ es, Small x) ∧ Below w.heap.size w w'
set_option maxHeartbeats 400000 in
set_option maxRecDepth 100000 in
theorem drawEntriesOk_any (v : Value) (bs : List UInt8) (w : World) (hr : Rd w v bs) (hb : bs.length ≤ 4096) :
    Calls Try.prog 53 #[v] w fun e w' => DrawnE w e w' := by
  go_enter Try.func53, Try.ntmps53
  go_wp2_with fail
  refine (l1New_any v bs w hr hb).mono ?_
  rintro e w1 ⟨g, rfl, hc1⟩
  have hs1 := hc1.bel.size
  go_wp2_with fail
  refine (l3DrawAny_any w _ g hc1).mono ?_
  rintro e w2 ⟨vL, es, rfl, ho2, hl2, hsm, hc2, hg2⟩
  have HS : Hid (∀ x ∈ es, Small x) := hsm
  have b2 := hc2.bel
  clear hsm hc1 hc2 hg2
  go_wp2
  go_ret
  exact ⟨_, es, rfl, ho2.mono hs1, hl2, HS.out, b2⟩
set_option maxHeartbeats 400000 in
set_option maxRecDepth 100000 in
theorem drawPacked_any (v : Value) (bs : List UInt8) (w : World) (hr : Rd w v bs) (hb : bs.length ≤ 4096) :
    Calls Try.prog 18 #[v] w fun e w' => DrawnE w e w' := by
  go_enter Try.func18, Try.ntmps18
  go_wp2_with fail
  refine (drawEntriesOk_any v bs w hr hb).mono ?_
  rintro e w1 ⟨vL, es, rfl, ho, hl, hsm, hb1⟩
  have HS : Hid (∀ x ∈ es, Small x) := hsm
  clear hsm
  go_wp2
  go_ret
  exact ⟨_, es, rfl, ho, hl, HS.out, hb1⟩
/-- What the draw of the law's bytes leaves. -/
def DrawnY (w : World) (e : Ending) (w' : World) : Prop := ∃ (u : Value) (ys : List UInt8), e = .returned u ∧ Wr w' w.heap.size u ys ∧ ys.length ≤ 1048576 ∧ Below w.heap.size w w'
set_option maxHeartbeats 1000000 in
set_option maxRecDepth 100000 in
theorem drawUnpacked_any (v : Value) (bs : List UInt8) (w : World) (hr : Rd w v bs) (hb : bs.length ≤ 4096) :
    Calls Try.prog 20 #[v] w fun e w' => DrawnY w e w' := by
  go_enter Try.func20, Try.ntmps20
  go_wp2_with fail
  refine (l1New_any v bs _ hr hb).mono ?_
  rintro e w1 ⟨g, rfl, hc⟩
  go_wp2_with fail
  refine (l3DrawAny_any w w1 g hc).mono ?_
  rintro e w2 ⟨u, es, rfl, ho, hl, hsm, hc2, hg2⟩
  have HC : Hid (Calls _ _ _ _ _) := specPacked_any u es w2 ho.rd (fun x h => (hsm x h).fits)
  clear hsm ho hl hc hg2
  go_wp2_with fail
  refine HC.out.mono ?_
  rintro e w3 ⟨t, rfl, ht, hb3⟩
  have hc3 : DCur w w3 g := hc2.below hb3
  have hcv := conv_own ht
  have htl := packL_len es
  have hz : (⟨(packL es).toArray⟩ : ByteArray).size ≤ 90009 := by show (packL es).toArray.size ≤ _; simpa using htl
  generalize (⟨(packL es).toArray⟩ : ByteArray) = s at hcv hz
  clear HC ht hc2 hb3 htl
  go_wp2_with fail
  refine (l1Once_any w _ g 2 hc3 (by omega) (by omega)).mono ?_
  rintro e w4 ⟨b, rfl, hc4, hg4⟩
  clear hcv hc3 hg4
  cases b
  · have hcb := conv_bytes w4 s
    have hw := bytes_new w4 s (by unfold maxLen; omega)
    have hg5 := bytes_grown w4 s none
    have hbel := hc4.bel.grown hg5 hc4.bel.size (fun k hk => by cases hk)
    have hsl : s.data.toList.length ≤ 1048576 := by rw [size_length]; omega
    have hw' := hw.mono hc4.bel.size
    generalize Lib.bytesWorld w4 5 s = W at hcb hw' hbel
    generalize grownCap w4 s.size 0 5 = c0 at hcb hw'
    generalize s.data.toList = ys at hw' hsl
    clear hw hg5
    go_wp2
    go_ret
    exact ⟨_, ys, rfl, hw', hsl, hbel⟩
  · go_wp2_with fail
    refine (l1Bend_any w _ g s _ hc4 (by omega) (by decide) (by decide)).mono ?_
    rintro e w5 ⟨s2, rfl, hs2, hc5, hg5⟩
    have hcb := conv_bytes w5 s2
    have hw := bytes_new w5 s2 (by unfold maxLen; omega)
    have hg6 := bytes_grown w5 s2 none
    have hbel := hc5.bel.grown hg6 hc5.bel.size (fun k hk => by cases hk)
    have hsl : s2.data.toList.length ≤ 1048576 := by rw [size_length]; omega
    have hw' := hw.mono hc5.bel.size
    generalize Lib.bytesWorld w5 5 s2 = W at hcb hw' hbel
    generalize grownCap w5 s2.size 0 5 = c0 at hcb hw'
    generalize s2.data.toList = ys at hw' hsl
    clear hw hg6 hc4 hg5
    go_wp2
    go_ret
    exact ⟨_, ys, rfl, hw', hsl, hbel⟩
/-- What the draw of the law's two texts leaves. -/
def DrawnT (w : World) (e : Ending) (w' : World) : Prop := ∃ p q : ByteArray, e = .returned (.tuple #[.string p, .string q]) ∧ p.size ≤ 1000 ∧ q.size ≤ 1000 ∧ Below w.heap.size w w'
set_option maxHeartbeats 400000 in
set_option maxRecDepth 100000 in
theorem drawCommon_any (v : Value) (bs : List UInt8) (w : World) (hr : Rd w v bs) (hb : bs.length ≤ 4096) :
    Calls Try.prog 22 #[v] w fun e w' => DrawnT w e w' := by
  go_enter Try.func22, Try.ntmps22
  go_wp2_with fail
  refine (l1New_any v bs _ hr hb).mono ?_
  rintro e w1 ⟨g, rfl, hc⟩
  go_wp2_with fail
  refine (l1DrawText_any w _ g hc).mono ?_
  rintro e w2 ⟨s, rfl, hs, hc2, hg2⟩
  clear hc hg2
  go_wp2_with fail
  refine (l1Once_any w _ g 2 hc2 (by omega) (by omega)).mono ?_
  rintro e w3 ⟨b, rfl, hc3, hg3⟩
  clear hc2 hg3
  cases b
  · go_wp2_with fail
    refine (l1DrawText_any w _ g hc3).mono ?_
    rintro e w4 ⟨t, rfl, ht, hc4, hg4⟩
    have b4 := hc4.bel
    clear hc3 hg4 hc4
    go_wp2
    go_ret2
    exact ⟨s, t, rfl, by omega, by omega, b4⟩
  · go_wp2_with fail
    refine (l1DrawText_any w _ g hc3).mono ?_
    rintro e w4 ⟨t, rfl, ht, hc4, hg4⟩
    have b4 := hc4.bel
    clear hc3 hg4 hc4
    go_wp2
    go_ret2
    exact ⟨s, s ++ t, rfl, by omega, by rw [ByteArray.size_append]; omega, b4⟩
end Go.Proofs.Ytnmjkbpoioadmaa
