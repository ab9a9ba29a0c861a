/- Plain facts on the texts that some bytes hold one behind the other. -/
import Derived.Test.YtckidhcknibceaaStrBase
import Derived.Test.YtckidhcknibceaaRdText
import Derived.Test.YtckidhcknibceaaMath1
namespace Go.Proofs.Ytckidhcknibceaa
open Go.RowKit
/-- m texts more from byte p on, behind those of acc. -/
def rdAcc (bs : List UInt8) : Nat → Nat → List ByteArray → Option (List ByteArray × Nat)
  | 0, p, acc => some (acc, p)
  | m + 1, p, acc => if (rdText (bs.drop p)).2 = 0 then none else rdAcc bs m (p + (rdText (bs.drop p)).2) (acc ++ [⟨(rdText (bs.drop p)).1.toArray⟩])
/-- The texts with which the bytes begin, and how many bytes they take. -/
def rdAll (bs : List UInt8) : Option (List ByteArray × Nat) := if (rdNum bs).2 = 0 ∨ 200 < (rdNum bs).1 then none else rdAcc bs (rdNum bs).1 (rdNum bs).2 []
/-- The texts whose bytes these are. -/
def fin (bs : List UInt8) : Option (List ByteArray × Nat) → List ByteArray × Bool
  | none => ([], false)
  | some r => if r.2 = bs.length then (r.1, true) else ([], false)
theorem rdText_drop (bs : List UInt8) (p : Nat) : (rdText (bs.drop p)).2 ≤ bs.length - p := by have := rdText_len (bs.drop p); rwa [List.length_drop] at this
theorem rdAcc_no (bs : List UInt8) (m p : Nat) (acc : List ByteArray) (h : (rdText (bs.drop p)).2 = 0) : rdAcc bs (m + 1) p acc = none := by rw [rdAcc, if_pos h]
theorem rdAcc_go (bs : List UInt8) (m p : Nat) (acc : List ByteArray) (h : (rdText (bs.drop p)).2 ≠ 0) : rdAcc bs (m + 1) p acc = rdAcc bs m (p + (rdText (bs.drop p)).2) (acc ++ [⟨(rdText (bs.drop p)).1.toArray⟩]) := by rw [rdAcc, if_neg h]
theorem rd_empty (w : World) (a : Option Addr) (cap : Nat) (h : cap ≤ maxLen) : Rd w (.slice a 0 cap) [] := ⟨a, cap, rfl, Nat.zero_le _, h, .inl rfl⟩
theorem rd_drop {w : World} {b off cap p : Nat} {bs : List UInt8} (hl : bs.length ≤ cap) (hm : cap ≤ maxLen) (hc : ∀ i (h : i < bs.length), w.cell? ⟨b, off + i, none⟩ = some (.int .u8 (bs[i].toNat : Int))) : Rd w (.slice (some ⟨b, off + p, none⟩) (bs.length - p) (cap - p)) (bs.drop p) := by
  refine ⟨some ⟨b, off + p, none⟩, cap - p, by rw [List.length_drop], by rw [List.length_drop]; omega, by omega, .inr ⟨b, off + p, rfl, fun i hi => ?_⟩⟩
  rw [List.length_drop] at hi
  have := hc (p + i) (by omega)
  rw [← Nat.add_assoc] at this
  rw [this]
  simp
theorem one_newS (w : World) (x : Value) (t : TypeId) : ∀ j u, [x][j]? = some u → (w.alloc (.cells #[x] t)).cell? ((⟨w.heap.size, 0, none⟩ : Addr).add j) = some u := by
  intro j u hj
  match j, hj with
  | 0, hj => simp at hj; subst hj; simp [Addr.add]
/-- What l1ReadTexts leaves. -/
def ManyPost (w : World) (res : Option (List ByteArray × Nat)) (e : Ending) (w' : World) : Prop :=
  ∃ u, e = .returned (.tuple #[u, .int .i64 (((res.elim 0 Prod.snd : Nat)) : Int)]) ∧ OwnS w' w.heap.size u (res.elim [] Prod.fst) ∧ Below w.heap.size w w'
theorem manyPost_no {w wr : World} {B : Nat} {res : Option (List ByteArray × Nat)} {u : Value} (h : res = none) (ho : OwnS wr B u []) (hB : w.heap.size ≤ B) (hb : Below w.heap.size w wr) : ManyPost w res (.returned (.tuple #[u, .int .i64 0])) wr := by
  subst h
  exact ⟨u, rfl, ho.mono hB, hb⟩
theorem manyPost_yes {w wr : World} {res : Option (List ByteArray × Nat)} {u : Value} {ss : List ByteArray} {p : Nat} (h : res = some (ss, p)) (ho : OwnS wr w.heap.size u ss) (hb : Below w.heap.size w wr) : ManyPost w res (.returned (.tuple #[u, .int .i64 (p : Int)])) wr := by
  subst h
  exact ⟨u, rfl, ho, hb⟩
end Go.Proofs.Ytckidhcknibceaa
