/- The contract of the bending of a text: it is some text, at most three bytes longer; nothing but the cursor's own block turns. -/
import Derived.Test.YtmgapmhjkamigaaDoorDrawText
import Derived.Deep.RegionLaw
import Derived.Lib.ConvBytes
namespace Go.Proofs.YtmgapmhjkamigaaDoor
open Go.RowKit
/-- append onto a row of the call's own, as one step of a region that draws. -/
theorem step_append_own {P : Program} {ops : Array Oper} {o : Oper} {a : Act} {w : World} {K : Act → World → Prop} {Q : Exit → Act → World → Prop} {E : Prop}
    (hg : o.guard = none) (s x : Operand) (t : TypeId) (hop : o.op = Op.call { callee := Callee.builtin Builtin.append, args := #[s, x], argTypes := #[t, t] })
    (base : Nat) (e : TypeId) (i : TypeInfo) (z : Value) (size bytes : Nat) (h1 : P.underlying t = some (.slice e)) (h2 : P.info? e = some i) (h3 : i.zero = some z) (h4 : i.size = size) (h5 : i.bytes = bytes) (h6 : z.cells.size = size) (h7 : 0 < size)
    (v : Value) (n : Nat) (xs : List Value) (hs : a.eval s = v) (hown : w.ownsRow base e size v n xs)
    (ad : Addr) (m c : Nat) (news : List Value) (hx : a.eval x = .slice (some ad) m c) (hn : news.length = m * size) (hc : ∀ j u, news[j]? = some u → w.cell? (ad.add j) = some u) (h1c : ∀ u ∈ news, u.oneCell' = true)
    (b1 : n + m ≤ maxLen) (b2 : (n + m) * bytes ≤ 140737488355328) (hbase : base ≤ w.heap.size)
    (hK : ∀ v' w', w'.ownsRow base e size v' (n + m) (xs ++ news) → w.grownBy w' v.ownBlock → K (a.put o.dst v') w') :
    if Region.wanted o (yielded ops a.tmps) = true then Oper.wp P o a w K Q else E := by
  have hw : Region.wanted o (yielded ops a.tmps) = true := by simp [Region.wanted, hg]
  rw [if_pos hw]
  obtain ⟨v', w', hrun, r1, r2, _⟩ := run_append_own (P := P) w base t o.type e i z size bytes h1 h2 h3 h4 h5 h6 h7 v n xs hown ad m c news hn hc h1c b1 b2 hbase
  unfold Oper.wp
  simp [execOp, hop, resolve, invoke, builtin, hs, hx, hrun, Result.andThen]
  exact hK v' w' r1 r2
/-- The slice v is the call's own, can be read and written, and holds the bytes ys. -/
def Wr (w : World) (B : Nat) (v : Value) (ys : List UInt8) : Prop :=
  (v = .slice none 0 0 ∧ ys = []) ∨ ∃ g cap, v = .slice (some ⟨g, 0, none⟩) ys.length cap ∧ B ≤ g ∧ ys.length ≤ cap ∧ cap ≤ maxLen ∧ g < w.heap.size ∧
    ∀ i (h : i < ys.length), w.cell? ⟨g, i, none⟩ = some (.int .u8 (ys[i].toNat : Int)) ∧ w.frozen? ⟨g, i, none⟩ = false
theorem Own.wr {w : World} {B : Nat} {v : Value} {ys : List UInt8} (h : Own w B v ys) : Wr w B v ys := by
  have h' := h
  rcases h.2 with ⟨rfl, h0⟩ | ⟨g, cap, cur, rfl, hb, hg, hn, hc, _⟩
  · exact .inl ⟨rfl, List.length_eq_zero_iff.1 h0⟩
  · refine .inr ⟨g, cap, rfl, hb, hn, hc, (Array.getElem?_eq_some_iff.1 hg).1, fun i hi => ⟨?_, World.ownsRow.frozenAt h' i⟩⟩
    have := World.ownsRow.cellAt h' i (by omega)
    rw [BV_get ys i hi] at this
    exact this
theorem Wr.kept {w w' : World} {B : Nat} {v : Value} {ys : List UInt8} {row : Option Nat} (h : Wr w B v ys) (hg : w.grownBy w' row) (hr : ∀ k, row = some k → k < B) : Wr w' B v ys := by
  rcases h with h | ⟨g, cap, hv, hB, h1, h2, h3, h4⟩
  · exact .inl h
  · have hb := hg.block g h3 (fun e => by have := hr g e.symm; omega)
    exact .inr ⟨g, cap, hv, hB, h1, h2, by have := hg.size; omega, fun i hi => ⟨(World.cell?_of_block (w := w) (a := ⟨g, i, none⟩) hb).trans (h4 i hi).1, (World.frozen?_of_block (w := w) (a := ⟨g, i, none⟩) hb).trans (h4 i hi).2⟩⟩
theorem Wr.conv {w : World} {B : Nat} {v : Value} {ys : List UInt8} (h : Wr w B v ys) : (convert 22 9 v).run Tryd.prog w = .ok (.string ⟨ys.toArray⟩) w := by
  rcases h with ⟨rfl, rfl⟩ | ⟨g, cap, rfl, _, _, _, _, h4⟩
  · exact run_convert_bytes_nil w 22 5 Tryd.underlying22 Tryd.underlying5 0 0 9 Tryd.underlying9
  · exact conv_at w g 0 ys.length cap ys rfl fun j hj => by rw [Nat.zero_add]; exact (h4 j hj).1
theorem Wr.rd {w : World} {B : Nat} {v : Value} {ys : List UInt8} (h : Wr w B v ys) : Rd w v ys := by
  rcases h with ⟨rfl, rfl⟩ | ⟨g, cap, rfl, _, h1, h2, _, h4⟩
  · exact ⟨none, 0, rfl, Nat.le_refl _, Nat.zero_le _, .inl rfl⟩
  · exact ⟨some ⟨g, 0, none⟩, cap, rfl, h1, h2, .inr ⟨g, 0, rfl, fun i hi => by rw [Nat.zero_add]; exact (h4 i hi).1⟩⟩
theorem Wr.below {w w' : World} {B : Nat} {v : Value} {ys : List UInt8} (h : Wr w B v ys) (hb : Below w.heap.size w w') : Wr w' B v ys := by
  rcases h with h | ⟨g, cap, hv, hB, h1, h2, h3, h4⟩
  · exact .inl h
  · exact .inr ⟨g, cap, hv, hB, h1, h2, by have := hb.size; omega, fun i hi => ⟨(hb.cell (p := ⟨g, i, none⟩) h3).trans (h4 i hi).1, (hb.frozen (p := ⟨g, i, none⟩) h3).trans (h4 i hi).2⟩⟩
theorem Wr.mono {w : World} {B B' : Nat} {v : Value} {ys : List UInt8} (h : Wr w B v ys) (hB : B' ≤ B) : Wr w B' v ys := by
  rcases h with h | ⟨g, cap, hv, h1, h2⟩
  · exact .inl h
  · exact .inr ⟨g, cap, hv, by omega, h2⟩
/-- A text's bytes, laid anew. -/
theorem bytes_new (w : World) (s : ByteArray) (hs : s.size ≤ maxLen) : Wr (Lib.bytesWorld w 5 s) w.heap.size (.slice (some ⟨w.heap.size, 0, none⟩) s.size (grownCap w s.size 0 5)) s.data.toList := by
  have hl : s.data.toList.length = s.size := by rw [Array.length_toList]; rfl
  refine .inr ⟨w.heap.size, _, by rw [hl], Nat.le_refl _, by rw [hl]; exact grownCap_ge w s.size 0 _, grownCap_le_maxLen w s.size 0 _ hs, by rw [Lib.bytesWorld_size]; omega, fun i hi => ⟨?_, ?_⟩⟩
  · rw [Lib.bytesWorld_cell w _ s i (by omega)]
    simp [List.getD, List.getElem?_eq_getElem hi]
  · have hc : s.size ≤ (Lib.bytesCells w 5 s).size := by unfold Lib.bytesCells; simp
    simp only [World.frozen?, Lib.bytesWorld_at_new]
    simp
    omega
theorem bytes_grown (w : World) (s : ByteArray) (row : Option Nat) : w.grownBy (Lib.bytesWorld w 5 s) row :=
  ⟨rfl, rfl, rfl, by rw [Lib.bytesWorld_size]; omega, fun k hk _ => Lib.bytesWorld_at_old w _ s k hk⟩
theorem Wr.stored {w : World} {B g cap : Nat} {ys : List UInt8} (hB : B ≤ g) (h1 : ys.length ≤ cap) (h2 : cap ≤ maxLen) (h3 : g < w.heap.size) (h4 : ∀ i (h : i < ys.length), w.cell? ⟨g, i, none⟩ = some (.int .u8 (ys[i].toNat : Int)) ∧ w.frozen? ⟨g, i, none⟩ = false) (k : Nat) (hk : k < ys.length) (b : UInt8) :
    Wr (w.setCell ⟨g, k, none⟩ (.int .u8 (b.toNat : Int))) B (.slice (some ⟨g, 0, none⟩) ys.length cap) (ys.set k b) := by
  refine .inr ⟨g, cap, by rw [List.length_set], hB, by rw [List.length_set]; exact h1, h2, by simpa using h3, fun i hi => ?_⟩
  rw [List.length_set] at hi
  refine ⟨?_, (World.frozen?_setCell _ _ _ _).trans (h4 i hi).2⟩
  by_cases hik : k = i
  · subst hik
    rw [World.cell?_setCell_same _ _ _ (h4 k hk).1]
    simp
  · rw [World.cell?_setCell_other _ _ _ _ (by simp), (h4 i hi).1]
    simp [hik]
theorem Wr.headed {w : World} {B g cap : Nat} {ys : List UInt8} (hB : B ≤ g) (h1 : ys.length ≤ cap) (h2 : cap ≤ maxLen) (h3 : g < w.heap.size) (h4 : ∀ i (h : i < ys.length), w.cell? ⟨g, i, none⟩ = some (.int .u8 (ys[i].toNat : Int)) ∧ w.frozen? ⟨g, i, none⟩ = false) (k : Nat) (hk : k < ys.length) :
    Wr w B (.slice (some ⟨g, 0, none⟩) k cap) (ys.take k) := by
  have hl : (ys.take k).length = k := by rw [List.length_take]; omega
  refine .inr ⟨g, cap, by rw [hl], hB, by omega, h2, h3, fun i hi => ?_⟩
  rw [hl] at hi
  rw [List.getElem_take]
  exact h4 i (by omega)
/-- What every step of the bending keeps. -/
def Keep (w0 w : World) (g : Nat) (W : World) : Prop := DCur w0 W g ∧ w.grownBy W (some g) ∧ g < w.heap.size
theorem Keep.step {w0 w W W' : World} {g : Nat} {row : Option Nat} (h : Keep w0 w g W) (hg : W.grownBy W' row) (hr : ∀ k, row = some k → w.heap.size ≤ k) : Keep w0 w g W' :=
  ⟨h.1.grow hg (fun k hk => by have := hr k hk; have := h.2.2; omega), gr_young h.2.1 hg hr, h.2.2⟩
theorem Keep.own {w0 w W W' : World} {g : Nat} (h : Keep w0 w g W) (hc : DCur w0 W' g) (hg : W.grownBy W' (some g)) : Keep w0 w g W' := ⟨hc, gr_trans h.2.1 hg, h.2.2⟩
/-- The row of bytes at block g1. -/
def RowAt (W : World) (g1 : Nat) (ys : List UInt8) : Prop := g1 < W.heap.size ∧ ∀ i (h : i < ys.length), W.cell? ⟨g1, i, none⟩ = some (.int .u8 (ys[i].toNat : Int)) ∧ W.frozen? ⟨g1, i, none⟩ = false
theorem RowAt.step {W W' : World} {g1 : Nat} {ys : List UInt8} {row : Option Nat} (h : RowAt W g1 ys) (hg : W.grownBy W' row) (hr : row ≠ some g1) : RowAt W' g1 ys := by
  have hb := hg.block g1 h.1 (fun e => hr e.symm)
  exact ⟨by have := h.1; have := hg.size; omega, fun i hi => ⟨(World.cell?_of_block (w := W) (a := ⟨g1, i, none⟩) hb).trans (h.2 i hi).1, (World.frozen?_of_block (w := W) (a := ⟨g1, i, none⟩) hb).trans (h.2 i hi).2⟩⟩
theorem RowAt.head {W : World} {g1 k : Nat} {ys : List UInt8} (h : RowAt W g1 ys) (hk : k ≤ ys.length) : ∀ j u, (BV (ys.take k))[j]? = some u → W.cell? ((⟨g1, 0, none⟩ : Addr).add j) = some u := by
  intro j u hj
  have hjl : j < (ys.take k).length := by have := (List.getElem?_eq_some_iff.1 hj).1; rwa [BV_length] at this
  rw [BV_get _ j hjl] at hj
  cases hj
  rw [List.length_take] at hjl
  rw [Addr.add_lit, Nat.zero_add, (h.2 j (by omega)).1, List.getElem_take]
theorem RowAt.tail {W : World} {g1 k : Nat} {ys : List UInt8} (h : RowAt W g1 ys) : ∀ j u, (BV (ys.drop k))[j]? = some u → W.cell? ((⟨g1, k, none⟩ : Addr).add j) = some u := by
  intro j u hj
  have hjl : j < (ys.drop k).length := by have := (List.getElem?_eq_some_iff.1 hj).1; rwa [BV_length] at this
  rw [BV_get _ j hjl] at hj
  cases hj
  rw [List.length_drop] at hjl
  rw [Addr.add_lit, (h.2 (k + j) (by omega)).1, List.getElem_drop]
theorem BV_one (bs : List UInt8) : ∀ u ∈ BV bs, u.oneCell' = true := by
  intro u hu
  obtain ⟨_, _, rfl⟩ := List.mem_map.1 hu
  rfl
theorem own_joined {W : World} {B n m : Nat} {v : Value} {ys zs : List UInt8} (hn : n = ys.length) (hm : m = zs.length) (h : W.ownsRow B 5 1 v (n + m) (BV ys ++ BV zs)) : Own W B v (ys ++ zs) := by
  subst hn
  subst hm
  unfold Own
  rw [BV_append, List.length_append]
  exact h

set_option maxHeartbeats 2000000 in
set_option maxRecDepth 100000 in
theorem l1Bend_any (w0 w : World) (g : Nat) (s sgn : ByteArray) (h : DCur w0 w g) (hs : s.size ≤ 1048576) (hg0 : 0 < sgn.size) (hg1 : sgn.size ≤ 100) :
    Calls Tryd.prog 49 #[.pointer (some ⟨g, 0, none⟩), .string s, .string sgn] w fun e w' => TextD w0 w g (s.size + 3) e w' := by
  obtain ⟨i0, hi, hz0, hz1, hz2⟩ := info_parts Tryd.info5
  have hlt := h.lt
  have hcvb := conv_bytes w s
  have hwr := bytes_new w s (by unfold maxLen; omega)
  have hgr := bytes_grown w s (some g)
  have hdc := h.grow (bytes_grown w s none) (fun k hk => by cases hk)
  have hsl : s.data.toList.length ≤ s.size := by rw [Array.length_toList]; exact Nat.le_refl _
  generalize s.data.toList = ys0 at hwr hsl
  generalize Lib.bytesWorld w 5 s = W at hcvb hwr hgr hdc
  generalize grownCap w s.size 0 5 = c0 at hcvb hwr
  go_enter Tryd.func49, Tryd.ntmps49
  go_wp2_with fail
  refine (l1Below_any w0 _ g 3 hdc (by omega) (by omega)).mono ?_
  rintro e w1 ⟨x, rfl, hx0, hx1, hc, hg⟩
  have ho1 := hwr.kept hg (fun k hk => by simp at hk; omega)
  have hgr1 := gr_trans hgr hg
  clear hwr hdc hgr h hg hcvb
  go_wp2
  go_loopw [7, 8] (fun bb nn wr => ∃ (m : Nat) (ys : List UInt8), nn = .int .i64 m ∧ m ≤ 2 ∧ ys.length + m ≤ s.size + 2 ∧ Wr wr w.heap.size bb ys ∧ DCur w0 wr g ∧ w.grownBy wr (some g)) (fun _ nn _ => (intOf nn).toNat)
  case atStart =>
    obtain ⟨m, rfl⟩ := Int.eq_ofNat_of_zero_le hx0
    exact ⟨m, ys0, rfl, by omega, by omega, ho1, hc, hgr1⟩
  case round =>
    obtain ⟨m, ys, rfl, hm2, hym, ho, hdc, hgw⟩ := hrel
    clear ho1 hc hgr1
    have hsz := hgw.size
    have hcv := ho.conv
    have hend : (⟨ys.toArray⟩ : ByteArray).size ≤ s.size + 3 := by show ys.toArray.size ≤ _; simp; omega
    rcases ho with ⟨hv, hy⟩ | ⟨g1, cap, hv, hB, h1, h2, h3, h4⟩
    · subst hv
      subst hy
      by_cases hm : 0 < m
      · go_wp2
        go_ret
        exact ⟨_, rfl, hend, hdc, hgw⟩
      · go_wp2
        go_ret
        exact ⟨_, rfl, hend, hdc, hgw⟩
    subst hv
    by_cases hm : 0 < m
    · by_cases hl : 0 < ys.length
      · have H4 : Hid (∀ i (h : i < ys.length), wr.cell? ⟨g1, i, none⟩ = some (.int .u8 (ys[i].toNat : Int)) ∧ wr.frozen? ⟨g1, i, none⟩ = false) := h4
        have Hmax : Hid (cap ≤ maxLen) := h2
        unfold maxLen at h2
        clear h4 hcv hend
        go_wp2_with fail
        refine (l1Below_any w0 _ g _ hdc (by omega) (by omega)).mono ?_
        rintro e w2 ⟨k', rfl, hk0, hk1, hc2, hg2⟩
        obtain ⟨k, rfl⟩ := Int.eq_ofNat_of_zero_le hk0
        have hkl : k < ys.length := by omega
        go_wp2_with fail
        refine (l1Below_any w0 _ g 4 hc2 (by omega) (by omega)).mono ?_
        rintro e w3 ⟨y, rfl, hy0, hy1, hc3, hg3⟩
        have hg23 := gr_trans hg2 hg3
        have hgw3 := gr_trans hgw hg23
        have hb3 := hg23.block g1 h3 (fun e => by simp at e; omega)
        have h33 : g1 < w3.heap.size := by have := hg23.size; omega
        have H43 : Hid (∀ i (h : i < ys.length), w3.cell? ⟨g1, i, none⟩ = some (.int .u8 (ys[i].toNat : Int)) ∧ w3.frozen? ⟨g1, i, none⟩ = false) := fun i hi => ⟨(World.cell?_of_block (w := wr) (a := ⟨g1, i, none⟩) hb3).trans (H4.out i hi).1, (World.frozen?_of_block (w := wr) (a := ⟨g1, i, none⟩) hb3).trans (H4.out i hi).2⟩
        have hsz3 := hgw3.size
        clear hb3 hg23 hg2 hg3 hc2 H4 hdc hgw hk0
        by_cases e0 : y = 0
        · subst e0
          go_wp2_with fail
          refine (l1Below_any w0 _ g _ hc3 (by omega) (by omega)).mono ?_
          rintro e w4 ⟨z', rfl, hq0, hq1, hc4, hg4⟩
          obtain ⟨z, rfl⟩ := Int.eq_ofNat_of_zero_le hq0
          have hzl : z < sgn.size := by omega
          have hb4 := hg4.block g1 h33 (fun e => by simp at e; omega)
          have H44 : Hid (∀ i (h : i < ys.length), w4.cell? ⟨g1, i, none⟩ = some (.int .u8 (ys[i].toNat : Int)) ∧ w4.frozen? ⟨g1, i, none⟩ = false) := fun i hi => ⟨(World.cell?_of_block (w := w3) (a := ⟨g1, i, none⟩) hb4).trans (H43.out i hi).1, (World.frozen?_of_block (w := w3) (a := ⟨g1, i, none⟩) hb4).trans (H43.out i hi).2⟩
          obtain ⟨hck, hfk⟩ := H44.out k hkl
          have h34 : g1 < w4.heap.size := by have := hg4.size; omega
          have hgw4 := gr_trans hgw3 hg4
          clear hb4 H43 hc3 hgw3 hg4 hq0
          have R1 : Wr (w4.setCell ⟨g1, k, none⟩ (.int .u8 ((sgn[z]'hzl).toNat : Int))) w.heap.size (.slice (some ⟨g1, 0, none⟩) ys.length cap) (ys.set k (sgn[z]'hzl)) := Wr.stored hB h1 Hmax.out h34 H44.out k hkl _
          have R2 : DCur w0 (w4.setCell ⟨g1, k, none⟩ (.int .u8 ((sgn[z]'hzl).toNat : Int))) g := hc4.grow (set_grown _) (fun j hj => by simp at hj; omega)
          have R3 : w.grownBy (w4.setCell ⟨g1, k, none⟩ (.int .u8 ((sgn[z]'hzl).toNat : Int))) (some g) := gr_young hgw4 (set_grown _) (fun j hj => by simp at hj; omega)
          clear hc4 hgw4 H44
          go_wp2
          go_roundw
          case rel => exact ⟨m - 1, _, by go_num, by omega, by rw [List.length_set]; omega, R1, R2, R3⟩
          case measure => simp [intOf]; omega
        by_cases e1 : y = 1
        · subst e1
          have R1 := Wr.headed hB h1 Hmax.out h33 H43.out k hkl
          have R4 : (ys.take k).length ≤ ys.length := by rw [List.length_take]; omega
          generalize ys.take k = zs at R1 R4
          go_wp2
          go_roundw
          case rel => exact ⟨m - 1, zs, by go_num, by omega, by omega, R1, hc3, hgw3⟩
          case measure => simp [intOf]; omega
        by_cases e2 : y = 2
        · subst e2
          have HK : Keep w0 w g w3 := ⟨hc3, hgw3, hlt⟩
          have HR : RowAt w3 g1 ys := ⟨h33, H43.out⟩
          have HK1 : Keep w0 w g (w3.alloc (.cells #[] 5)).drew := HK.step (gr_drewN (gr_alloc (gr_refl w3 none) _) 1) (fun k hk => by cases hk)
          have HR1 : RowAt (w3.alloc (.cells #[] 5)).drew g1 ys := HR.step (gr_drewN (gr_alloc (gr_refl w3 none) (.cells #[] 5)) 1) (fun e => by cases e)
          have HA1 : ((w3.alloc (.cells #[] 5)).drew).ownsRow w.heap.size 5 1 (.slice (some ⟨w3.heap.size, 0, none⟩) 0 0) 0 (BV []) := (own_none w3).mono hsz3
          have htk : (ys.take k).length = k := by rw [List.length_take]; omega
          have hdk : (ys.drop (k + 1)).length = ys.length - (k + 1) := List.length_drop
          have HZ : Hid (w3.heap.size ≠ g1) := by show _ ≠ _; omega
          have Htk : Hid ((ys.take k).length = k) := htk
          have Hdk : Hid ((ys.drop (k + 1)).length = ys.length - (k + 1)) := hdk
          have hkc : k ≤ cap := by omega
          have hkc1 : k + 1 ≤ ys.length := by omega
          have hkc2 : (k : Int) + 1 ≤ (ys.length : Int) := by omega
          have hkc3 : k ≤ ys.length := by omega
          have hkc4 : k + 1 ≤ cap := by omega
          have hbs : ys.length ≤ 1048578 := by omega
          clear htk hdk HK HR hc3 hgw3 H43
          by_cases hcap : cap = k + 1
          · subst hcap
            have hnil : ys.drop (k + 1) = [] := List.drop_eq_nil_of_le h1
            have Hnil : Hid (ys.drop (k + 1) = []) := hnil
            have hl0 : ys.length - (k + 1) = 0 := by omega
            have hki : (k : Int) ≤ (k : Int) + 1 := by omega
            clear hnil
            go_wp2
            have hwr1 : IntKind.i64.wrap ((k : Int) + 1) = (k : Int) + 1 := by rw [IntKind.wrap_i64]; omega
            have htn1 : ((k : Int) + 1).toNat = k + 1 := by omega
            have hnn1 : (0 : Int) ≤ (k : Int) + 1 := by omega
            go_region_law (first
              | (refine step_append_own rfl (.tmp 47) (.tmp 50) 22 rfl w.heap.size 5 i0 (.int .u8 0) 1 1 Tryd.underlying22 hi hz0 hz1 hz2 rfl (by decide) (.slice (some ⟨w3.heap.size, 0, none⟩) 0 0) 0 (BV []) rfl HA1 ⟨g1, 0, none⟩ k (k + 1) (BV (ys.take k)) rfl (by rw [BV_length, Htk.out, Nat.mul_one]) (HR1.head hkc3) (BV_one _) (by unfold maxLen; omega) (by omega) (by simp; omega) ?_; intro v1 wA hoA hgA; have HKA := HK1.step hgA (fun j hj => (World.ownsRow.lt HA1 j hj).1); have HRA := HR1.step hgA (fun e => HZ.out (by simpa [Value.ownBlock] using e)))
              | (refine step_append_own rfl (.tmp 51) (.tmp 55) 22 rfl w.heap.size 5 i0 (.int .u8 0) 1 1 Tryd.underlying22 hi hz0 hz1 hz2 rfl (by decide) v1 _ _ rfl hoA ⟨g1, 0, none⟩ 0 0 (BV (ys.drop (k + 1))) rfl (by rw [Hnil.out]; rfl) (fun j u hj => by rw [Hnil.out] at hj; simp [BV] at hj) (BV_one _) (by unfold maxLen; omega) (by omega) (by have := hgA.size; simp at this; omega) ?_; intro v2 wB hoB hgB))
            have R1 : Own wB w.heap.size v2 (ys.take k ++ ys.drop (k + 1)) := by
              have h := hoB
              rw [show BV [] = [] from rfl, List.nil_append, Nat.zero_add] at h
              exact own_joined Htk.out.symm (by rw [Hnil.out]; rfl) h
            have HKB := HKA.step hgB (fun j hj => (World.ownsRow.lt hoA j hj).1)
            have R4 : (ys.take k ++ ys.drop (k + 1)).length ≤ ys.length := by rw [List.length_append, Htk.out, Hdk.out]; omega
            have R1' := R1.wr
            generalize ys.take k ++ ys.drop (k + 1) = zs at R1' R4
            obtain ⟨R2, R3, _⟩ := HKB
            clear hwr1 htn1 hnn1 hoA hgA HKA HRA hoB hgB R1 HK1 HR1 HA1 hl0
            go_wp2
            go_roundw
            case rel => exact ⟨m - 1, zs, by go_num, by omega, by omega, R1', R2, R3⟩
            case measure => simp [intOf]; omega
          · go_wp2
            have hwr1 : IntKind.i64.wrap ((k : Int) + 1) = (k : Int) + 1 := by rw [IntKind.wrap_i64]; omega
            have htn1 : ((k : Int) + 1).toNat = k + 1 := by omega
            have hnn1 : (0 : Int) ≤ (k : Int) + 1 := by omega
            go_region_law (first
              | (refine step_append_own rfl (.tmp 47) (.tmp 50) 22 rfl w.heap.size 5 i0 (.int .u8 0) 1 1 Tryd.underlying22 hi hz0 hz1 hz2 rfl (by decide) (.slice (some ⟨w3.heap.size, 0, none⟩) 0 0) 0 (BV []) rfl HA1 ⟨g1, 0, none⟩ k cap (BV (ys.take k)) rfl (by rw [BV_length, Htk.out, Nat.mul_one]) (HR1.head hkc3) (BV_one _) (by unfold maxLen; omega) (by omega) (by simp; omega) ?_; intro v1 wA hoA hgA; have HKA := HK1.step hgA (fun j hj => (World.ownsRow.lt HA1 j hj).1); have HRA := HR1.step hgA (fun e => HZ.out (by simpa [Value.ownBlock] using e)))
              | (refine step_append_own rfl (.tmp 51) (.tmp 55) 22 rfl w.heap.size 5 i0 (.int .u8 0) 1 1 Tryd.underlying22 hi hz0 hz1 hz2 rfl (by decide) v1 _ _ rfl hoA ⟨g1, k + 1, none⟩ (ys.length - (k + 1)) (cap - (k + 1)) (BV (ys.drop (k + 1))) rfl (by rw [BV_length, Hdk.out, Nat.mul_one]) HRA.tail (BV_one _) (by unfold maxLen; omega) (by omega) (by have := hgA.size; simp at this; omega) ?_; intro v2 wB hoB hgB))
            have R1 : Own wB w.heap.size v2 (ys.take k ++ ys.drop (k + 1)) := by
              have h := hoB
              rw [show BV [] = [] from rfl, List.nil_append, Nat.zero_add] at h
              exact own_joined Htk.out.symm Hdk.out.symm h
            have HKB := HKA.step hgB (fun j hj => (World.ownsRow.lt hoA j hj).1)
            have R4 : (ys.take k ++ ys.drop (k + 1)).length ≤ ys.length := by rw [List.length_append, Htk.out, Hdk.out]; omega
            have R1' := R1.wr
            generalize ys.take k ++ ys.drop (k + 1) = zs at R1' R4
            obtain ⟨R2, R3, _⟩ := HKB
            clear hwr1 htn1 hnn1 hoA hgA HKA HRA hoB hgB R1 HK1 HR1 HA1
            go_wp2
            go_roundw
            case rel => exact ⟨m - 1, zs, by go_num, by omega, by omega, R1', R2, R3⟩
            case measure => simp [intOf]; omega
        · have e3 : y = 3 := by omega
          subst e3
          have HK : Keep w0 w g w3 := ⟨hc3, hgw3, hlt⟩
          have HR : RowAt w3 g1 ys := ⟨h33, H43.out⟩
          have HK1 : Keep w0 w g (w3.alloc (.cells #[] 5)).drew := HK.step (gr_drewN (gr_alloc (gr_refl w3 none) _) 1) (fun k hk => by cases hk)
          have HR1 : RowAt (w3.alloc (.cells #[] 5)).drew g1 ys := HR.step (gr_drewN (gr_alloc (gr_refl w3 none) (.cells #[] 5)) 1) (fun e => by cases e)
          have HA1 : ((w3.alloc (.cells #[] 5)).drew).ownsRow w3.heap.size 5 1 (.slice (some ⟨w3.heap.size, 0, none⟩) 0 0) 0 (BV []) := own_none w3
          have Htk : Hid ((ys.take k).length = k) := by show _ = _; rw [List.length_take]; omega
          have Hdk : Hid ((ys.drop k).length = ys.length - k) := List.length_drop
          have hgg : g < w3.heap.size := by omega
          have hkc : k ≤ cap := by omega
          have hkc2 : (k : Int) ≤ (ys.length : Int) := by omega
          have hkc3 : k ≤ ys.length := by omega
          have hkc4 : ¬ cap = k := by omega
          have hbs : ys.length ≤ 1048578 := by omega
          clear HK HR hc3 hgw3 H43
          go_wp2
          go_region_law (first
            | (refine step_append_own rfl (.tmp 59) (.tmp 62) 22 rfl w3.heap.size 5 i0 (.int .u8 0) 1 1 Tryd.underlying22 hi hz0 hz1 hz2 rfl (by decide) (.slice (some ⟨w3.heap.size, 0, none⟩) 0 0) 0 (BV []) rfl HA1 ⟨g1, 0, none⟩ k cap (BV (ys.take k)) rfl (by rw [BV_length, Htk.out, Nat.mul_one]) (HR1.head hkc3) (BV_one _) (by unfold maxLen; omega) (by omega) (by simp) ?_; intro v1 wA hoA hgA; have HKA := HK1.step hgA (fun j hj => by have := (World.ownsRow.lt HA1 j hj).1; omega); have HRA := HR1.step hgA (fun e => by have := (World.ownsRow.lt HA1 _ e).1; omega); have hsA : w3.heap.size ≤ wA.heap.size := by (have := hgA.size; simp at this; omega))
            | (refine step_append_own rfl (.tmp 63) (.tmp 70) 22 rfl w3.heap.size 5 i0 (.int .u8 0) 1 1 Tryd.underlying22 hi hz0 hz1 hz2 rfl (by decide) v1 _ _ rfl (World.ownsRow.alloc hoA4 _) ⟨w4.heap.size, 0, none⟩ 1 1 [.int .u8 ((sgn[z]'hzl).toNat : Int)] rfl rfl (one_new _ _ _) (by intro u hu; simp at hu; subst hu; rfl) (by unfold maxLen; omega) (by omega) (by simp; omega) ?_; intro v2 wB hoB hgB; have HKB := (HK4.step (gr_alloc (gr_refl w4 none) _) (fun j hj => by cases hj)).step hgB (fun j hj => by have := (World.ownsRow.lt hoA4 j hj).1; omega); have HRB := (HR4.step (gr_alloc (gr_refl w4 none) _) (fun e => by cases e)).step hgB (fun e => by have := (World.ownsRow.lt hoA4 _ e).1; omega); have hsB : w3.heap.size ≤ wB.heap.size := by (have := hgB.size; simp at this; omega))
            | (refine step_append_own rfl (.tmp 71) (.tmp 74) 22 rfl w3.heap.size 5 i0 (.int .u8 0) 1 1 Tryd.underlying22 hi hz0 hz1 hz2 rfl (by decide) v2 _ _ rfl hoB ⟨g1, k, none⟩ (ys.length - k) (cap - k) (BV (ys.drop k)) rfl (by rw [BV_length, Hdk.out, Nat.mul_one]) HRB.tail (BV_one _) (by unfold maxLen; omega) (by omega) hsB ?_; intro v3 wC hoC hgC)
            | (go_simp; go_wp2_with (go_at_call 39; (refine (l1Below_any w0 _ g _ HKA.1 (by omega) (by omega)).mono ?_; rintro e w4 ⟨z', rfl, hq0, hq1, hc4, hg4⟩; obtain ⟨z, rfl⟩ := Int.eq_ofNat_of_zero_le hq0; have hzl : z < sgn.size := (by omega); have HK4 := HKA.own hc4 hg4; have HR4 := HRA.step hg4 (fun e => by have := Option.some.inj e; omega); have hoA4 := row_kept hoA hg4 (fun j hj e => by have := (World.ownsRow.lt hoA j hj).1; have := Option.some.inj e; omega); have hs4 : w3.heap.size ≤ w4.heap.size := by (have := hg4.size; omega)))))
          have R1 : Own wC w3.heap.size v3 ((ys.take k ++ [sgn[z]'hzl]) ++ ys.drop k) := by
            have h := hoC
            rw [show BV [] = [] from rfl, List.nil_append, Nat.zero_add] at h
            exact own_joined (ys := ys.take k ++ [sgn[z]'hzl]) (by rw [List.length_append, Htk.out, List.length_singleton]) Hdk.out.symm (by rw [BV_append]; exact h)
          have HKC := HKB.step hgC (fun j hj => by have := (World.ownsRow.lt hoB j hj).1; omega)
          have R4 : ((ys.take k ++ [sgn[z]'hzl]) ++ ys.drop k).length ≤ ys.length + 1 := by rw [List.length_append, List.length_append, Htk.out, Hdk.out]; simp; omega
          have R1' := (R1.mono hsz3).wr
          generalize (ys.take k ++ [sgn[z]'hzl]) ++ ys.drop k = zs at R1' R4
          obtain ⟨R2, R3, _⟩ := HKC
          clear hoA hgA HKA HRA hoB hgB R1 HK1 HR1 HA1 hoC hgC HKB HRB hoA4 HK4 HR4 hc4 hg4
          go_wp2
          go_roundw
          case rel => exact ⟨m - 1, zs, by go_num, by omega, by omega, R1', R2, R3⟩
          case measure => simp [intOf]; omega
      · go_wp2
        go_ret
        exact ⟨_, rfl, hend, hdc, hgw⟩
    · go_wp2
      go_ret
      exact ⟨_, rfl, hend, hdc, hgw⟩
end Go.Proofs.YtmgapmhjkamigaaDoor
