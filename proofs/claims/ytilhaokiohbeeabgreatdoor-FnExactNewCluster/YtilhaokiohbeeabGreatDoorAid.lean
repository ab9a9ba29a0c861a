/- Plain facts on rows of bytes and on conversions between bytes and texts, over this program's own types; no function of the program is walked here. -/
import Derived.Test.YtilhaokiohbeeabGreatDoorBase
import Derived.Laws.IdiomStrings
import Derived.Laws.BytesArg
import Derived.Lib.ConvBytes
namespace Go.Proofs.YtilhaokiohbeeabGreatDoor
open Go.RowKit
theorem Tryz.info5 : (Tryz.prog.info? 5).map (fun i => (i.zero, i.size, i.bytes)) = some (some (.int .u8 0), 1, 1) := by kernel_rfl
theorem own_none (w : World) : Own (w.alloc (.cells #[] 5)) w.heap.size (.slice (some ⟨w.heap.size, 0, none⟩) 0 0) [] := World.ownsRow_lit w #[] 0 (Nat.le_refl _) (Nat.zero_le _) rfl
theorem size_length (s : ByteArray) : s.data.toList.length = s.size := by rw [Array.length_toList]; rfl
theorem conv_at (w : World) (b o n c : Nat) (l : List UInt8) (hl : l.length = n) (hc : ∀ j (hj : j < l.length), w.cell? ⟨b, o + j, none⟩ = some (.int .u8 (l[j].toNat : Int))) :
    (convert 206 9 (.slice (some ⟨b, o, none⟩) n c)).run Tryz.prog w = .ok (.string ⟨l.toArray⟩) w := by
  subst hl
  exact run_convert_bytes_back w 206 9 5 ⟨b, o, none⟩ c l Tryz.underlying206 Tryz.underlying5 Tryz.underlying9 (fun j hj => by rw [Addr.add_lit]; exact hc j hj)
/-- A row of bytes of the call's own, as a text. -/
theorem conv_own {w : World} {B : Nat} {v : Value} {bs : List UInt8} (h : Own w B v bs) : (convert 206 9 v).run Tryz.prog w = .ok (.string ⟨bs.toArray⟩) w := by
  rcases h.2 with ⟨rfl, h0⟩ | ⟨g, cap, cur, rfl, _⟩
  · have : bs = [] := List.length_eq_zero_iff.1 h0
    subst this
    exact run_convert_bytes_nil w 206 5 Tryz.underlying206 Tryz.underlying5 0 0 9 Tryz.underlying9
  · refine conv_at w g 0 bs.length cap bs rfl fun j hj => ?_
    have := World.ownsRow.cellAt h j (by omega)
    rw [BV_get bs j hj] at this
    rw [Nat.zero_add]
    exact this
theorem some_byte (x : Int) (h0 : 0 ≤ x) (h1 : x < 256) : x = ((UInt8.ofNat x.toNat).toNat : Int) := by rw [UInt8.toNat_ofNat']; omega
theorem dig_toNat (k : Nat) : ((UInt8.ofNat (48 + k % 10)).toNat : Int) = 48 + (k : Int) % 10 := by
  rw [UInt8.toNat_ofNat']; omega
theorem conv_one (w : World) (b : UInt8) (x : Int) (hx : (b.toNat : Int) = x) :
    (convert 206 9 (.slice (some ⟨w.heap.size, 0, none⟩) 1 1)).run Tryz.prog (w.alloc (.cells #[.int .u8 x] 5)) = .ok (.string ⟨#[b]⟩) (w.alloc (.cells #[.int .u8 x] 5)) := by
  refine conv_at _ w.heap.size 0 1 1 [b] rfl fun j hj => ?_
  have : j = 0 := by simpa using hj
  subst this
  simp [hx]
theorem madeB (n : Nat) : (madeCells #[Value.int .u8 0] n).toList = BV (List.replicate n 0) := by
  rw [toList_madeCells_one]
  simp [BV]
theorem conv_bytes (w : World) (s : ByteArray) : (convert 9 206 (.string s)).run Tryz.prog w = .ok (.slice (some ⟨w.heap.size, 0, none⟩) s.size (grownCap w s.size 0 5)) (Lib.bytesWorld w 5 s) :=
  Lib.run_convert_string_bytes w 9 206 5 s Tryz.underlying9 Tryz.underlying206 Tryz.underlying5
theorem bytes_rd (w : World) (s : ByteArray) (hs : s.size ≤ maxLen) : Rd (Lib.bytesWorld w 5 s) (.slice (some ⟨w.heap.size, 0, none⟩) s.size (grownCap w s.size 0 5)) s.data.toList := by
  have hl := size_length s
  refine ⟨_, _, by rw [hl], by rw [hl]; exact grownCap_ge w s.size 0 _, grownCap_le_maxLen w s.size 0 _ hs, .inr ⟨w.heap.size, 0, rfl, fun i hi => ?_⟩⟩
  rw [Nat.zero_add, Lib.bytesWorld_cell w _ s i (by omega)]
  simp [List.getD, List.getElem?_eq_getElem hi]
theorem bytes_below (w : World) (s : ByteArray) : Below w.heap.size w (Lib.bytesWorld w 5 s) :=
  ⟨rfl, rfl, rfl, by rw [Lib.bytesWorld_size]; omega, fun k hk => Lib.bytesWorld_at_old w _ s k hk⟩
theorem own_some {w : World} {B : Nat} {v : Value} {bs : List UInt8} (h : Own w B v bs) (hn : bs ≠ []) : ∃ g cap, v = .slice (some ⟨g, 0, none⟩) bs.length cap ∧ ∀ j u, (BV bs)[j]? = some u → w.cell? ((⟨g, 0, none⟩ : Addr).add j) = some u := by
  rcases h.2 with ⟨_, h0⟩ | ⟨g, cap, cur, hv, _⟩
  · exact absurd (List.length_eq_zero_iff.1 h0) hn
  · exact ⟨g, cap, hv, World.ownsRow.cells h (by rw [hv]; rfl)⟩
theorem BV_oneCell (bs : List UInt8) : ∀ u ∈ BV bs, u.oneCell' = true := by
  intro u hu
  obtain ⟨_, _, rfl⟩ := List.mem_map.1 hu
  rfl
theorem own_more {w1 : World} {B : Nat} {v' : Value} {ys zs : List UInt8} (h : w1.ownsRow B 5 1 v' (ys.length + zs.length) (BV ys ++ BV zs)) : Own w1 B v' (ys ++ zs) := by
  unfold Own
  rw [BV_append, List.length_append]
  exact h

end Go.Proofs.YtilhaokiohbeeabGreatDoor
