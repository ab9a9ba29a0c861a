/- The contracts of the three draws that the law of packing begins with: some entries, some bytes, two texts. -/
import Derived.Test.YtjgcommffaplnaaDrawAny
import Derived.Test.YtjgcommffaplnaaDrawHelp
import Derived.Test.YtjgcommffaplnaaBend
import Derived.Test.YtjgcommffaplnaaPackSpec
namespace Go.Proofs.Ytjgcommffaplnaa
open Go.RowKit
/-- What the draw of the law's entries leaves. -/
def DrawnE (w : World) (e : Ending) (w' : World) : Prop :=
  ∃ (v : Value) (es : List Ent), e = .returned v ∧ OwnE w' w.heap.size v es ∧ es.length ≤ 400 ∧ (∀ x ∈ es, Small x) ∧ Below w.heap.size w w'
set_option maxHeartbeats 400000 in
set_option maxRecDepth 100000 in
theorem drawEntriesOk_any (v : Value) (bs : List UInt8) (w : World) (hr : Rd w v bs) (hb : bs.length ≤ 4096) :
    Calls Try.prog 38 #[v] w fun e w' => DrawnE w e w' := by
  go_enter Try.func38, Try.ntmps38
  go_wp2_with fail
  refine (l1New_any v bs w hr hb).mono ?_
  rintro e w1 ⟨g, rfl, hc1⟩
  have hs1 := hc1.bel.size
  go_wp2_with fail
  refine (l3DrawAny_any w _ g hc1).mono ?_
  rintro e w2 ⟨vL, es, rfl, ho2, hl2, hsm, hc2, hg2⟩
  have HS : Hid (∀ x ∈ es, Small x) := hsm
  have b2 := hc2.bel
  clear hsm hc1 hc2 hg2
  go_wp2
  go_ret
  exact ⟨_, es, rfl, ho2.mono hs1, hl2, HS.out, b2⟩
/-- What the draw of the law's bytes leaves. -/
def DrawnY (w : World) (e : Ending) (w' : World) : Prop := ∃ (u : Value) (ys : List UInt8), e = .returned u ∧ Wr w' w.heap.size u ys ∧ ys.length ≤ 1048576 ∧ Below w.heap.size w w'
/-- What the draw of the law's two texts leaves. -/
def DrawnT (w : World) (e : Ending) (w' : World) : Prop := ∃ p q : ByteArray, e = .returned (.tuple #[.string p, .string q]) ∧ p.size ≤ 1000 ∧ q.size ≤ 1000 ∧ Below w.heap.size w w'
end Go.Proofs.Ytjgcommffaplnaa
