/- Plain facts on rows of bytes and on conversions between bytes and texts, over this program's own types; no function of the program is walked here. Plain facts on rows of texts that a call owns or reads. The contracts of the draws of a text and of some texts: each is some text, or some texts, of a bounded size; nothing but the cursor's own block turns. -/
import Derived.Test.YtpidmmfjmbinkaaGreatDoorG00
import Derived.Laws.IdiomStrings
import Derived.Laws.BytesArg
import Derived.Lib.ConvBytes
namespace Go.Proofs.YtpidmmfjmbinkaaGreatDoor
open Go.RowKit
theorem Tryz.info5 : (Tryz.prog.info? 5).map (fun i => (i.zero, i.size, i.bytes)) = some (some (.int .u8 0), 1, 1) := by kernel_rfl
theorem own_none (w : World) : Own (w.alloc (.cells #[] 5)) w.heap.size (.slice (some ⟨w.heap.size, 0, none⟩) 0 0) [] := World.ownsRow_lit w #[] 0 (Nat.le_refl _) (Nat.zero_le _) rfl
theorem size_length (s : ByteArray) : s.data.toList.length = s.size := by rw [Array.length_toList]; rfl
theorem conv_at (w : World) (b o n c : Nat) (l : List UInt8) (hl : l.length = n) (hc : ∀ j (hj : j < l.length), w.cell? ⟨b, o + j, none⟩ = some (.int .u8 (l[j].toNat : Int))) :
    (convert 22 9 (.slice (some ⟨b, o, none⟩) n c)).run Tryz.prog w = .ok (.string ⟨l.toArray⟩) w := by
  subst hl
  exact run_convert_bytes_back w 22 9 5 ⟨b, o, none⟩ c l Tryz.underlying22 Tryz.underlying5 Tryz.underlying9 (fun j hj => by rw [Addr.add_lit]; exact hc j hj)
/-- A row of bytes of the call's own, as a text. -/
theorem conv_own {w : World} {B : Nat} {v : Value} {bs : List UInt8} (h : Own w B v bs) : (convert 22 9 v).run Tryz.prog w = .ok (.string ⟨bs.toArray⟩) w := by
  rcases h.2 with ⟨rfl, h0⟩ | ⟨g, cap, cur, rfl, _⟩
  · have : bs = [] := List.length_eq_zero_iff.1 h0
    subst this
    exact run_convert_bytes_nil w 22 5 Tryz.underlying22 Tryz.underlying5 0 0 9 Tryz.underlying9
  · refine conv_at w g 0 bs.length cap bs rfl fun j hj => ?_
    have := World.ownsRow.cellAt h j (by omega)
    rw [BV_get bs j hj] at this
    rw [Nat.zero_add]
    exact this
theorem some_byte (x : Int) (h0 : 0 ≤ x) (h1 : x < 256) : x = ((UInt8.ofNat x.toNat).toNat : Int) := by rw [UInt8.toNat_ofNat']; omega
theorem dig_toNat (k : Nat) : ((UInt8.ofNat (48 + k % 10)).toNat : Int) = 48 + (k : Int) % 10 := by
  rw [UInt8.toNat_ofNat']; omega
theorem conv_one (w : World) (b : UInt8) (x : Int) (hx : (b.toNat : Int) = x) :
    (convert 22 9 (.slice (some ⟨w.heap.size, 0, none⟩) 1 1)).run Tryz.prog (w.alloc (.cells #[.int .u8 x] 5)) = .ok (.string ⟨#[b]⟩) (w.alloc (.cells #[.int .u8 x] 5)) := by
  refine conv_at _ w.heap.size 0 1 1 [b] rfl fun j hj => ?_
  have : j = 0 := by simpa using hj
  subst this
  simp [hx]
theorem madeB (n : Nat) : (madeCells #[Value.int .u8 0] n).toList = BV (List.replicate n 0) := by
  rw [toList_madeCells_one]
  simp [BV]
theorem conv_bytes (w : World) (s : ByteArray) : (convert 9 22 (.string s)).run Tryz.prog w = .ok (.slice (some ⟨w.heap.size, 0, none⟩) s.size (grownCap w s.size 0 5)) (Lib.bytesWorld w 5 s) :=
  Lib.run_convert_string_bytes w 9 22 5 s Tryz.underlying9 Tryz.underlying22 Tryz.underlying5
theorem bytes_rd (w : World) (s : ByteArray) (hs : s.size ≤ maxLen) : Rd (Lib.bytesWorld w 5 s) (.slice (some ⟨w.heap.size, 0, none⟩) s.size (grownCap w s.size 0 5)) s.data.toList := by
  have hl := size_length s
  refine ⟨_, _, by rw [hl], by rw [hl]; exact grownCap_ge w s.size 0 _, grownCap_le_maxLen w s.size 0 _ hs, .inr ⟨w.heap.size, 0, rfl, fun i hi => ?_⟩⟩
  rw [Nat.zero_add, Lib.bytesWorld_cell w _ s i (by omega)]
  simp [List.getD, List.getElem?_eq_getElem hi]
theorem bytes_below (w : World) (s : ByteArray) : Below w.heap.size w (Lib.bytesWorld w 5 s) :=
  ⟨rfl, rfl, rfl, by rw [Lib.bytesWorld_size]; omega, fun k hk => Lib.bytesWorld_at_old w _ s k hk⟩
theorem own_some {w : World} {B : Nat} {v : Value} {bs : List UInt8} (h : Own w B v bs) (hn : bs ≠ []) : ∃ g cap, v = .slice (some ⟨g, 0, none⟩) bs.length cap ∧ ∀ j u, (BV bs)[j]? = some u → w.cell? ((⟨g, 0, none⟩ : Addr).add j) = some u := by
  rcases h.2 with ⟨_, h0⟩ | ⟨g, cap, cur, hv, _⟩
  · exact absurd (List.length_eq_zero_iff.1 h0) hn
  · exact ⟨g, cap, hv, World.ownsRow.cells h (by rw [hv]; rfl)⟩
theorem BV_oneCell (bs : List UInt8) : ∀ u ∈ BV bs, u.oneCell' = true := by
  intro u hu
  obtain ⟨_, _, rfl⟩ := List.mem_map.1 hu
  rfl
theorem own_more {w1 : World} {B : Nat} {v' : Value} {ys zs : List UInt8} (h : w1.ownsRow B 5 1 v' (ys.length + zs.length) (BV ys ++ BV zs)) : Own w1 B v' (ys ++ zs) := by
  unfold Own
  rw [BV_append, List.length_append]
  exact h

end Go.Proofs.YtpidmmfjmbinkaaGreatDoor
namespace Go.Proofs.YtpidmmfjmbinkaaGreatDoor
open Go.RowKit
theorem Tryz.info9 : (Tryz.prog.info? 9).map (fun i => (i.zero, i.size, i.bytes)) = some (some (.string ⟨#[]⟩), 1, 16) := by kernel_rfl
def SV (ss : List ByteArray) : List Value := ss.map Value.string
theorem SV_length (ss : List ByteArray) : (SV ss).length = ss.length := by simp [SV]
theorem SV_append (a b : List ByteArray) : SV (a ++ b) = SV a ++ SV b := by simp [SV]
theorem SV_get (ss : List ByteArray) (i : Nat) (h : i < ss.length) : (SV ss)[i]? = some (.string ss[i]) := by simp [SV, h]
theorem SV_set (ss : List ByteArray) (i : Nat) (s : ByteArray) : SV (ss.set i s) = (SV ss).set i (.string s) := by simp [SV, List.map_set]
/-- The slice v is the call's own (its block is at least number base) and holds the texts ss. -/
def OwnS (w : World) (base : Nat) (v : Value) (ss : List ByteArray) : Prop := w.ownsRow base 9 1 v ss.length (SV ss)
/-- The slice v can be read and holds the texts ss. -/
def RdS (w : World) (v : Value) (ss : List ByteArray) : Prop :=
  ∃ a cap, v = .slice a ss.length cap ∧ ss.length ≤ cap ∧ cap ≤ maxLen ∧
    (ss = [] ∨ ∃ b off, a = some ⟨b, off, none⟩ ∧ ∀ i (h : i < ss.length), w.cell? ⟨b, off + i, none⟩ = some (.string ss[i]))
theorem OwnS.rd {w : World} {base : Nat} {v : Value} {ss : List ByteArray} (h : OwnS w base v ss) : RdS w v ss := by
  have h' := h
  rcases h.2 with ⟨rfl, h0⟩ | ⟨g, cap, cur, rfl, hb, hg, hn, hc, hs, ht⟩
  · have : ss = [] := List.length_eq_zero_iff.1 h0
    subst this
    exact ⟨none, 0, rfl, Nat.le_refl _, Nat.zero_le _, .inl rfl⟩
  · refine ⟨some ⟨g, 0, none⟩, cap, rfl, hn, hc, .inr ⟨g, 0, rfl, fun i hi => ?_⟩⟩
    have := h'.cellAt i (by omega)
    rw [SV_get ss i hi] at this
    simpa using this
theorem OwnS.below {w w' : World} {base : Nat} {v : Value} {ss : List ByteArray} (h : OwnS w base v ss) (hb : Below w.heap.size w w') : OwnS w' base v ss := own_below h hb
theorem OwnS.drewN {w : World} {base : Nat} {v : Value} {ss : List ByteArray} (h : OwnS w base v ss) (q : Nat) : OwnS (w.drewN q) base v ss := h
theorem OwnS.mono {w : World} {base base' : Nat} {v : Value} {ss : List ByteArray} (h : OwnS w base v ss) (hb : base' ≤ base) : OwnS w base' v ss := by
  refine ⟨h.1, ?_⟩
  rcases h.2 with h2 | ⟨g, cap, cur, hv, hg, r⟩
  · exact .inl h2
  · exact .inr ⟨g, cap, cur, hv, Nat.le_trans hb hg, r⟩
theorem RdS.below {w w' : World} {v : Value} {ss : List ByteArray} (h : RdS w v ss) (hb : Below w.heap.size w w') : RdS w' v ss := by
  obtain ⟨a, cap, hv, h1, h2, h3⟩ := h
  refine ⟨a, cap, hv, h1, h2, ?_⟩
  rcases h3 with h3 | ⟨b, off, ha, hc⟩
  · exact .inl h3
  · exact .inr ⟨b, off, ha, fun i hi => by rw [hb.cell (World.block_lt_of_cell? w _ (hc i hi))]; exact hc i hi⟩
theorem RdS.drewN {w : World} {v : Value} {ss : List ByteArray} (h : RdS w v ss) (q : Nat) : RdS (w.drewN q) v ss := h
theorem rdS_nil (w : World) : RdS w (.slice none 0 0) [] := ⟨none, 0, rfl, Nat.le_refl _, Nat.zero_le _, .inl rfl⟩
/-- A slice of texts that came in. -/
theorem rdS_of {w : World} {x : Addr} {len cap : Nat} {zs : List ByteArray} (hl : len ≤ cap) (hm : cap ≤ maxLen) (hz : zs.length = cap) (hcell : ∀ i, i < zs.length → w.cell? (x.add i) = some (.string (zs.getD i ByteArray.empty))) (hwz : ∀ s ∈ zs, s.size ≤ maxLen) :
    ∃ ss, RdS w (.slice (some x) len cap) ss ∧ ∀ s ∈ ss, s.size ≤ maxLen := by
  refine ⟨zs.take len, ⟨some x, cap, ?_, ?_, hm, ?_⟩, fun s hs => hwz s (List.mem_of_mem_take hs)⟩
  · congr 1; rw [List.length_take]; omega
  · rw [List.length_take]; omega
  · by_cases h0 : len = 0
    · left; subst h0; simp
    · right
      obtain ⟨b, off, spot⟩ := x
      have hc := hcell 0 (by omega)
      have hspot : spot = none := by simpa [Addr.add] using World.cell?_spot hc
      subst hspot
      refine ⟨b, off, rfl, fun i hi => ?_⟩
      have hi' : i < len := by rw [List.length_take] at hi; omega
      have h := hcell i (by omega)
      have hg : zs.getD i ByteArray.empty = zs[i]'(by omega) := by simp [List.getD, List.getElem?_eq_getElem (show i < zs.length by omega)]
      rw [Addr.add_lit] at h
      rw [h, hg]
      simp only [List.getElem_take]
theorem ownS_none (w : World) : OwnS (w.alloc (.cells #[] 9)) w.heap.size (.slice (some ⟨w.heap.size, 0, none⟩) 0 0) [] := World.ownsRow_lit w #[] 0 (Nat.le_refl _) (Nat.zero_le _) rfl
theorem ownS_push {w1 : World} {B : Nat} {v' : Value} {ys : List ByteArray} {x : ByteArray} (h : w1.ownsRow B 9 1 v' (ys.length + 1) (SV ys ++ [.string x])) : OwnS w1 B v' (ys ++ [x]) := by
  have e : SV (ys ++ [x]) = SV ys ++ [.string x] := by simp [SV]
  unfold OwnS
  rw [e, List.length_append]
  exact h
theorem pushS_below {w wr w1 : World} {B B' : Nat} {v : Value} {o : Obj} {ys : List ByteArray} (hown : OwnS wr B' v ys) (hBB : B ≤ B') (hb : Below B w wr) (hB : B ≤ wr.heap.size) (hg : (wr.alloc o).grownBy w1 v.ownBlock) : Below B w w1 :=
  (hb.alloc hB o).grown hg (by simp; omega) (fun k hk => Nat.le_trans hBB (World.ownsRow.lt hown k hk).1)
theorem ownS_lt {w : World} {B : Nat} {v : Value} {ss : List ByteArray} (h : OwnS w B v ss) : ∀ k, v.ownBlock = some k → k < w.heap.size := fun k hk => (World.ownsRow.lt h k hk).2
/-- Two rows that lie apart: the one of the elder call stays as the younger one is written. -/
theorem ownS_other {w w' : World} {B1 B2 : Nat} {v1 v2 : Value} {ss ss2 : List ByteArray} (h1 : OwnS w B1 v1 ss) (hlt : ∀ k, v1.ownBlock = some k → k < B2) (h2 : OwnS w B2 v2 ss2) (hg : w.grownBy w' v2.ownBlock) : OwnS w' B1 v1 ss := by
  refine World.ownsRow.kept h1 hg ?_
  cases h : v1.ownBlock with
  | none => exact .inl rfl
  | some k => exact .inr fun e => by have := (World.ownsRow.lt h2 k e.symm).1; have := hlt k h; omega
theorem belowS_marked {a w w' : World} {B B2 : Nat} {v2 : Value} {ss2 : List ByteArray} (hb : Below B a w) (h2 : OwnS w B2 v2 ss2) (hB : B ≤ B2) (hg : w.grownBy w' v2.ownBlock) (hs : B ≤ w.heap.size) : Below B a w' :=
  hb.grown hg hs (fun k hk => by have := (World.ownsRow.lt h2 k hk).1; omega)
/-- A row that lies apart from the one that is written stays. -/
theorem row_kept {w w' : World} {B : Nat} {e : TypeId} {s : Nat} {v : Value} {n : Nat} {xs : List Value} {row : Option Nat} (h : w.ownsRow B e s v n xs) (hg : w.grownBy w' row) (hd : ∀ k, v.ownBlock = some k → row ≠ some k) : w'.ownsRow B e s v n xs := by
  refine World.ownsRow.kept h hg ?_
  cases hu : v.ownBlock with
  | none => exact .inl rfl
  | some k => exact .inr fun e => hd k hu e.symm
end Go.Proofs.YtpidmmfjmbinkaaGreatDoor
namespace Go.Proofs.YtpidmmfjmbinkaaGreatDoor
open Go.RowKit
/-- What the draw of a text leaves. -/
def TextD (w0 w : World) (g m : Nat) (e : Ending) (w' : World) : Prop := ∃ s : ByteArray, e = .returned (.string s) ∧ s.size ≤ m ∧ DCur w0 w' g ∧ w.grownBy w' (some g)
theorem gr_alloc {a w : World} {row : Option Nat} (h : a.grownBy w row) (o : Obj) : a.grownBy (w.alloc o) row := by
  have := h.size
  exact ⟨h.os, h.tape, h.output, by simp; omega, fun k hk hr => (Below.heap_alloc w o k (by omega)).trans (h.block k hk hr)⟩
/-- A write into a row that is younger than the world a. -/
theorem gr_young {a w w' : World} {row row2 : Option Nat} (h : a.grownBy w row) (hg : w.grownBy w' row2) (hy : ∀ k, row2 = some k → a.heap.size ≤ k) : a.grownBy w' row := by
  have := h.size
  exact ⟨hg.os.trans h.os, hg.tape.trans h.tape, hg.output.trans h.output, Nat.le_trans h.size hg.size, fun k hk hr => (hg.block k (by omega) (fun e => by have := hy k e.symm; omega)).trans (h.block k hk hr)⟩

set_option maxHeartbeats 1000000 in
set_option maxRecDepth 100000 in
theorem l1DrawText_any (w0 w : World) (g : Nat) (h : DCur w0 w g) :
    Calls Tryz.prog 26 #[.pointer (some ⟨g, 0, none⟩)] w fun e w' => TextD w0 w g 9 e w' := by
  obtain ⟨i0, hi, hz0, hz1, hz2⟩ := info_parts Tryz.info5
  have hlt := h.lt
  have hst := own_none w
  have hdc := h.alloc (.cells #[] 5)
  have hgr := gr_alloc (gr_refl w (some g)) (.cells #[] 5)
  go_enter Tryz.func26, Tryz.ntmps26
  go_wp2_with fail
  refine (l1Below_any w0 _ g 8 hdc (by omega) (by omega)).mono ?_
  rintro e w1 ⟨x, rfl, hx0, hx1, hc, hg⟩
  have ho1 : Own w1 w.heap.size _ [] := row_kept hst hg (fun k hk e => by have := (World.ownsRow.lt hst k hk).1; simp at e; omega)
  have hgr1 := gr_trans hgr hg
  clear hst hdc hgr h hg
  go_wp2
  go_loopw [3, 4] (fun oo nn wr => ∃ (m : Nat) (ys : List UInt8), nn = .int .i64 m ∧ ys.length + m ≤ 8 ∧ Own wr w.heap.size oo ys ∧ DCur w0 wr g ∧ w.grownBy wr (some g)) (fun _ nn _ => (intOf nn).toNat)
  case atStart =>
    obtain ⟨m, rfl⟩ := Int.eq_ofNat_of_zero_le hx0
    exact ⟨m, [], rfl, by simp; omega, ho1, hc, hgr1⟩
  case round =>
    obtain ⟨m, ys, rfl, hym, ho, hdc, hgw⟩ := hrel
    clear ho1 hc hgr1
    have hs := hgw.size
    by_cases hm : 0 < m
    · go_wp2_with fail
      refine (l1Below_any w0 _ g 4 hdc (by omega) (by omega)).mono ?_
      rintro e w2 ⟨y, rfl, hy0, hy1, hc2, hg2⟩
      have ho2 : Own w2 w.heap.size _ ys := row_kept ho hg2 (fun k hk e => by have := (World.ownsRow.lt ho k hk).1; simp at e; omega)
      have hgw2 := gr_trans hgw hg2
      have hs2 := hg2.size
      clear ho hdc hgw hg2
      go_wp2_with (at_builtin; (refine wpList_append_own _ rfl _ _ 22 rfl w.heap.size 5 i0 (.int .u8 0) 1 1 Tryz.underlying22 hi hz0 hz1 hz2 rfl (by decide) _ _ _ rfl (World.ownsRow.alloc ho2 _) ⟨w2.heap.size, 0, none⟩ 1 1 [.int .u8 (97 + y)] rfl rfl ?c1 ?c2 ?c3 ?c4 ?c5 ?_))
      case c1 => exact one_new _ _ _
      case c2 => intro u hu; simp at hu; subst hu; rfl
      case c3 => unfold maxLen; omega
      case c4 => omega
      case c5 => simp; omega
      intro v' w3 hown' hgrow _
      have R1 := own_push _ (some_byte (97 + y) (by omega) (by omega)) hown'
      have R2 := (hc2.alloc _).grow hgrow (fun k hk => by have := (World.ownsRow.lt ho2 k hk).1; omega)
      have R3 := gr_young (gr_alloc hgw2 _) hgrow (fun k hk => (World.ownsRow.lt ho2 k hk).1)
      clear hown' hgrow ho2 hc2 hgw2
      go_wp2
      go_roundw
      case rel => exact ⟨m - 1, _, by go_num, by rw [List.length_append]; simp; omega, R1, R2, R3⟩
      case measure => simp [intOf]; omega
    · have hm0 : m = 0 := by omega
      subst hm0
      go_wp2_with fail
      refine (l1Once_any w0 _ g 6 hdc (by omega) (by omega)).mono ?_
      rintro e w2 ⟨b, rfl, hc2, hg2⟩
      have ho2 : Own w2 w.heap.size _ ys := row_kept ho hg2 (fun k hk e => by have := (World.ownsRow.lt ho k hk).1; simp at e; omega)
      have hgw2 := gr_trans hgw hg2
      have hs2 := hg2.size
      clear ho hdc hgw hg2
      cases b
      · have hcv := conv_own ho2
        go_wp2
        go_ret
        exact ⟨_, rfl, by show ys.toArray.size ≤ 9; simp; omega, hc2, hgw2⟩
      · go_wp2_with fail
        refine (l1Byte_any w0 _ g hc2).mono ?_
        rintro e w3 ⟨y, rfl, hy0, hy1, hc3, hg3⟩
        have ho3 : Own w3 w.heap.size _ ys := row_kept ho2 hg3 (fun k hk e => by have := (World.ownsRow.lt ho2 k hk).1; simp at e; omega)
        have hgw3 := gr_trans hgw2 hg3
        have hs3 := hg3.size
        clear ho2 hc2 hgw2 hg3
        go_wp2_with (at_builtin; (refine wpList_append_own _ rfl _ _ 22 rfl w.heap.size 5 i0 (.int .u8 0) 1 1 Tryz.underlying22 hi hz0 hz1 hz2 rfl (by decide) _ _ _ rfl (World.ownsRow.alloc ho3 _) ⟨w3.heap.size, 0, none⟩ 1 1 [.int .u8 y] rfl rfl ?d1 ?d2 ?d3 ?d4 ?d5 ?_))
        case d1 => exact one_new _ _ _
        case d2 => intro u hu; simp at hu; subst hu; rfl
        case d3 => unfold maxLen; omega
        case d4 => omega
        case d5 => simp; omega
        intro v' w4 hown' hgrow _
        have R1 := own_push _ (some_byte y (by omega) (by omega)) hown'
        have R2 := (hc3.alloc _).grow hgrow (fun k hk => by have := (World.ownsRow.lt ho3 k hk).1; omega)
        have R3 := gr_young (gr_alloc hgw3 _) hgrow (fun k hk => (World.ownsRow.lt ho3 k hk).1)
        have hcv := conv_own R1
        have hyl : (ys ++ [UInt8.ofNat y.toNat]).length ≤ 9 := by rw [List.length_append]; simp; omega
        generalize ys ++ [UInt8.ofNat y.toNat] = zs at R1 hcv hyl
        clear hown' hgrow ho3 hc3 hgw3
        go_wp2
        go_ret
        exact ⟨_, rfl, by show zs.toArray.size ≤ 9; simpa using hyl, R2, R3⟩
end Go.Proofs.YtpidmmfjmbinkaaGreatDoor
