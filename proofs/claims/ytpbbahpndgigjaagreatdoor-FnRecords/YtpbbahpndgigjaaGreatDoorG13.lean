/- append of writes onto a row of the call's own. The draw of a batch: at most three writes of a bounded size, in a row of the call's own. The contract of the bending of a text: it is some text, at most three bytes longer; nothing but the cursor's own block turns. The draws of disks and of a batch's text. -/
import Derived.Maps.AppendAt
import Derived.Test.YtpbbahpndgigjaaGreatDoorG12
import Derived.Deep.RegionLaw
import Derived.Lib.ConvBytes
-- UNF Gen
namespace Go.Proofs.YtpbbahpndgigjaaGreatDoor
set_option maxHeartbeats 16000000
set_option maxRecDepth 100000
open Go.RowKit
theorem run_append_wris (ty : TypeId) {w : World} {base : Nat} {v u : Value} {ys zs : List Wri} (hown : OwnW w base v ys) (hr : RdW w u zs) (hl : ys.length + zs.length ≤ 1000000000) (hbase : base ≤ w.heap.size) :
    ∃ v' w', (Builtin.append_ #[28, 28] ty #[v, u]).run Tryz.prog w = .ok v' w' ∧ OwnW w' base v' (ys ++ zs) ∧ w.grownBy w' v.ownBlock := by
  obtain ⟨i0, hi, hz0, hz1, hz2⟩ := info_parts Tryz.infoW54
  obtain ⟨a, cap, rfl, h1, h2, h0, h3⟩ := hr
  have row : ∀ ad news, news = WV zs → (∀ j u, news[j]? = some u → w.cell? (ad.add j) = some u) → ∃ v' w', (Builtin.append_ #[28, 28] ty #[v, .slice (some ad) zs.length cap]).run Tryz.prog w = .ok v' w' ∧ OwnW w' base v' (ys ++ zs) ∧ w.grownBy w' v.ownBlock := by
    intro ad news hn hc
    subst hn
    obtain ⟨v', w', hrun, r1, r2, _⟩ := run_append_own (P := Tryz.prog) w base 28 ty 54 i0 _ 3 40 Tryz.underlying28 hi hz0 hz1 hz2 rfl (by decide) v ys.length (WV ys) hown ad zs.length cap (WV zs) (by rw [WV_length]) hc (WV_oneCell zs) (by unfold maxLen; omega) (by omega) hbase
    exact ⟨v', w', hrun, ownW_more r1, r2⟩
  cases a with
  | some ad =>
    refine row ad (WV zs) rfl ?_
    rcases h3 with rfl | ⟨b, off, ha, hc⟩
    · intro j u hj; simp [WV] at hj
    · cases ha; exact wrisAt_cells hc
  | none =>
    have hc0 := h0 rfl
    subst hc0
    rcases h3 with rfl | ⟨b, off, ha, hc⟩
    · refine ⟨v, w, run_append_owned_none (P := Tryz.prog) w base 28 ty 54 i0 3 Tryz.underlying28 hi v ys.length (WV ys) hown, by simpa using hown, ⟨rfl, rfl, rfl, Nat.le_refl _, fun _ _ _ => rfl⟩⟩
    · cases ha
theorem wpList_append_wris {w : World} {ops : Array Oper} {rest : List Oper} {o : Oper} {a : Act} {Q : Exit → Act → World → Prop} (hgd : o.guard = none) (s x : Operand)
    (ho : o.op = .call { callee := .builtin .append, args := #[s, x], argTypes := #[28, 28] }) (base : Nat) (v u : Value) (ys zs : List Wri) (hs : a.eval s = v) (hx : a.eval x = u) (hown : OwnW w base v ys) (hr : RdW w u zs) (hl : ys.length + zs.length ≤ 1000000000) (hbase : base ≤ w.heap.size)
    (h : ∀ v' w', OwnW w' base v' (ys ++ zs) → w.grownBy w' v.ownBlock → wpList Tryz.prog ops Q rest (a.put o.dst v') w') : wpList Tryz.prog ops Q (o :: rest) a w := by
  refine wpList_plain hgd fun K hK => ?_
  obtain ⟨v', w', hrun, r1, r2⟩ := run_append_wris o.type hown hr hl hbase
  unfold Oper.wp
  simp [execOp, ho, resolve, invoke, builtin, hs, hx, hrun, Result.andThen]
  exact hK _ _ (h v' w' r1 r2)
theorem step_append_wris {w : World} {ops : Array Oper} {o : Oper} {a : Act} {K : Act → World → Prop} {Q : Exit → Act → World → Prop} {E : Prop} (hgd : o.guard = none) (d : Nat) (hd : o.dst = some d) (s x : Operand)
    (ho : o.op = .call { callee := .builtin .append, args := #[s, x], argTypes := #[28, 28] }) (base : Nat) (v u : Value) (ys zs : List Wri) (hs : a.eval s = v) (hx : a.eval x = u) (hown : OwnW w base v ys) (hr : RdW w u zs) (hl : ys.length + zs.length ≤ 1000000000) (hbase : base ≤ w.heap.size)
    (h : ∀ v' w', OwnW w' base v' (ys ++ zs) → w.grownBy w' v.ownBlock → K (a.put (some d) v') w') :
    if Region.wanted o (yielded ops a.tmps) = true then Oper.wp Tryz.prog o a w K Q else E := by
  have hw : Region.wanted o (yielded ops a.tmps) = true := by simp [Region.wanted, hgd]
  rw [if_pos hw]
  obtain ⟨v', w', hrun, r1, r2⟩ := run_append_wris o.type hown hr hl hbase
  unfold Oper.wp
  simp [execOp, ho, resolve, invoke, builtin, hs, hx, hrun, Result.andThen]
  have h' := h v' w' r1 r2
  rw [← hd] at h'
  exact h'
theorem rdW_one {w : World} {b : Nat} {x : Wri} (h : WriAt w b 0 x) : RdW w (.slice (some ⟨b, 0, none⟩) 1 1) [x] :=
  ⟨_, 1, rfl, Nat.le_refl _, by unfold maxLen; omega, (fun h => by cases h), .inr ⟨b, 0, rfl, fun i hi => by
    have : i = 0 := by simpa using hi
    subst this
    exact h⟩⟩
theorem wriAt_new (w : World) (x : Wri) (t : TypeId) : WriAt (w.alloc (.cells #[.string x.key, .string x.val, .bool x.gone] t)) w.heap.size 0 x := by
  refine ⟨?_, ?_, ?_⟩ <;> simp
end Go.Proofs.YtpbbahpndgigjaaGreatDoor
-- UNF Gen
namespace Go.Proofs.YtpbbahpndgigjaaGreatDoor
set_option maxHeartbeats 16000000
set_option maxRecDepth 100000
open Go.RowKit
def SmallW (x : Wri) : Prop := x.key.size ≤ 1000 ∧ x.val.size ≤ 1000
def BatD (w0 w : World) (g n : Nat) (e : Ending) (w' : World) : Prop :=
  ∃ (v : Value) (xs : List Wri), e = .returned v ∧ OwnW w' w.heap.size v xs ∧ xs.length ≤ n ∧ (∀ x ∈ xs, SmallW x) ∧ DCur w0 w' g ∧ w.grownBy w' (some g)
theorem ownW_g {w w' : World} {B g : Nat} {v : Value} {es : List Wri} (h : OwnW w B v es) (hg : w.grownBy w' (some g)) (hB : g < B) : OwnW w' B v es :=
  row_kept h hg (fun k hk e => by have := (World.ownsRow.lt h k hk).1; simp at e; omega)
theorem ownW_append {w w' : World} {B g : Nat} {v : Value} {es : List Wri} {w0 a : World} (h : OwnW w B v es) (hg : w.grownBy w' v.ownBlock) (hc : DCur w0 w g) (ha : a.grownBy w (some g)) (hB : a.heap.size ≤ B) (hgB : g < B) : DCur w0 w' g ∧ a.grownBy w' (some g) :=
  ⟨hc.grow hg (fun k hk => by have := (World.ownsRow.lt h k hk).1; omega), gr_young ha hg (fun k hk => by have := (World.ownsRow.lt h k hk).1; omega)⟩
theorem l7DrawBatch_any (w0 w : World) (g : Nat) (h : DCur w0 w g) :
    Calls Tryz.prog 30 #[.pointer (some ⟨g, 0, none⟩)] w fun e w' => BatD w0 w g 3 e w' := by
  have hlt := h.lt
  have hdc := h.alloc (.cells #[] 54)
  have hst := ownW_none w
  have hgr := gr_alloc (gr_refl w (some g)) (.cells #[] 54)
  go_enter Tryz.func30, Tryz.ntmps30
  go_wp2_with fail
  refine (l1Below_any w0 _ g 4 hdc (by omega) (by omega)).mono ?_
  rintro e w1 ⟨x, rfl, hx0, hx1, hc1, hg1⟩
  have ho1 := ownW_g hst hg1 hlt
  have hgr1 := gr_trans hgr hg1
  clear hdc hst hgr hg1
  go_wp2
  go_loopw [3, 4] (fun o n wr => ∃ (m : Int) (ys : List Wri), n = .int .i64 m ∧ 0 ≤ m ∧ (ys.length : Int) + m ≤ 3 ∧ OwnW wr w.heap.size o ys ∧ Hid (∀ y ∈ ys, SmallW y) ∧ DCur w0 wr g ∧ w.grownBy wr (some g)) (fun _ n _ => (intOf n).toNat)
  case atStart => exact ⟨x, [], rfl, hx0, by simp; omega, ho1, (fun y hy => by cases hy), hc1, hgr1⟩
  case round =>
    obtain ⟨m, ys, rfl, hm0, hyl, ho, HS, hc, hgw⟩ := hrel
    clear ho1 hc1 hgr1
    by_cases hmp : 0 < m
    · go_wp2_with fail
      refine (l3DrawEntry_any w0 _ g 1 hc).mono ?_
      rintro e w2 ⟨z, rfl, hz0, hz1, hz2, hc2, hg2⟩
      obtain ⟨zk, zv, zs, zg⟩ := z
      simp only at hz0 hz1 hz2
      subst hz2
      have ho2 := ownW_g ho hg2 hlt
      have hgw2 := gr_trans hgw hg2
      have HS2 : Hid (∀ y ∈ ys ++ [⟨zk, zv, zg⟩], SmallW y) := fun y hy => by
        rcases List.mem_append.1 hy with hy | hy
        · exact HS.out y hy
        · rw [List.mem_singleton.1 hy]; exact ⟨hz0, hz1⟩
      have bx := below1 w2 (.cells #[.string zk, .string zv, .int .i64 1, .bool zg] 71)
      have k0 : (w2.alloc (.cells #[.string zk, .string zv, .int .i64 1, .bool zg] 71)).cell? ⟨w2.heap.size, 0, none⟩ = some (.string zk) := by simp
      have k1 : (w2.alloc (.cells #[.string zk, .string zv, .int .i64 1, .bool zg] 71)).cell? ⟨w2.heap.size, 1, none⟩ = some (.string zv) := by simp
      have k3 : (w2.alloc (.cells #[.string zk, .string zv, .int .i64 1, .bool zg] 71)).cell? ⟨w2.heap.size, 3, none⟩ = some (.bool zg) := by simp
      have ho3 := ho2.below bx
      have hc3 := hc2.below bx
      have hgw3 := gr_below hgw2 bx
      clear ho hc hgw hg2 ho2 hc2 hgw2 bx HS
      have b4 := below1 (w2.alloc (.cells #[.string zk, .string zv, .int .i64 1, .bool zg] 71)) (.cells #[.string zk, .string zv, .bool zg] 54)
      have ho4 := ho3.below b4
      have hc4 := hc3.below b4
      have hgw4 := gr_below hgw3 b4
      have hx4 := wriAt_new (w2.alloc (.cells #[.string zk, .string zv, .int .i64 1, .bool zg] 71)) ⟨zk, zv, zg⟩ 54
      rw [show (w2.alloc (.cells #[.string zk, .string zv, .int .i64 1, .bool zg] 71)).heap.size = w2.heap.size + 1 by simp] at hx4
      have hs4 : w.heap.size ≤ ((w2.alloc (.cells #[.string zk, .string zv, .int .i64 1, .bool zg] 71)).alloc (.cells #[.string zk, .string zv, .bool zg] 54)).heap.size := hgw4.size
      go_wp2_with (at_builtin; (refine wpList_append_wris rfl _ _ rfl w.heap.size _ _ ys [⟨zk, zv, zg⟩] rfl rfl ho4 (rdW_one hx4) (by simp; omega) hs4 ?_))
      intro v6 w6 ho6 hg6
      obtain ⟨hc6, hgw6⟩ := ownW_append ho4 hg6 hc4 hgw4 (Nat.le_refl _) hlt
      clear ho3 hc3 hgw3 b4 ho4 hc4 hgw4 hx4 hs4 hg6 k0 k1 k3
      have hl6 : ((ys ++ [(⟨zk, zv, zg⟩ : Wri)]).length : Int) + (m - 1) ≤ 3 := by simp; omega
      go_wp2
      go_roundw
      case rel => exact ⟨m - 1, _, rfl, by omega, hl6, ho6, HS2, hc6, hgw6⟩
      case measure => simp [intOf]; omega
    · have hm1 : m = 0 := by omega
      subst hm1
      go_wp2
      go_ret
      exact ⟨_, ys, rfl, ho, by omega, HS.out, hc, hgw⟩
open Go.RowKit
theorem step_append_own {P : Program} {ops : Array Oper} {o : Oper} {a : Act} {w : World} {K : Act → World → Prop} {Q : Exit → Act → World → Prop} {E : Prop}
    (hg : o.guard = none) (s x : Operand) (t : TypeId) (hop : o.op = Op.call { callee := Callee.builtin Builtin.append, args := #[s, x], argTypes := #[t, t] })
    (base : Nat) (e : TypeId) (i : TypeInfo) (z : Value) (size bytes : Nat) (h1 : P.underlying t = some (.slice e)) (h2 : P.info? e = some i) (h3 : i.zero = some z) (h4 : i.size = size) (h5 : i.bytes = bytes) (h6 : z.cells.size = size) (h7 : 0 < size)
    (v : Value) (n : Nat) (xs : List Value) (hs : a.eval s = v) (hown : w.ownsRow base e size v n xs)
    (ad : Addr) (m c : Nat) (news : List Value) (hx : a.eval x = .slice (some ad) m c) (hn : news.length = m * size) (hc : ∀ j u, news[j]? = some u → w.cell? (ad.add j) = some u) (h1c : ∀ u ∈ news, u.oneCell' = true)
    (b1 : n + m ≤ maxLen) (b2 : (n + m) * bytes ≤ 140737488355328) (hbase : base ≤ w.heap.size)
    (hK : ∀ v' w', w'.ownsRow base e size v' (n + m) (xs ++ news) → w.grownBy w' v.ownBlock → K (a.put o.dst v') w') :
    if Region.wanted o (yielded ops a.tmps) = true then Oper.wp P o a w K Q else E := by
  have hw : Region.wanted o (yielded ops a.tmps) = true := by simp [Region.wanted, hg]
  rw [if_pos hw]
  obtain ⟨v', w', hrun, r1, r2, _⟩ := run_append_own (P := P) w base t o.type e i z size bytes h1 h2 h3 h4 h5 h6 h7 v n xs hown ad m c news hn hc h1c b1 b2 hbase
  unfold Oper.wp
  simp [execOp, hop, resolve, invoke, builtin, hs, hx, hrun, Result.andThen]
  exact hK v' w' r1 r2
def Wr (w : World) (B : Nat) (v : Value) (ys : List UInt8) : Prop :=
  (v = .slice none 0 0 ∧ ys = []) ∨ ∃ g cap, v = .slice (some ⟨g, 0, none⟩) ys.length cap ∧ B ≤ g ∧ ys.length ≤ cap ∧ cap ≤ maxLen ∧ g < w.heap.size ∧
    ∀ i (h : i < ys.length), w.cell? ⟨g, i, none⟩ = some (.int .u8 (ys[i].toNat : Int)) ∧ w.frozen? ⟨g, i, none⟩ = false
theorem Own.wr {w : World} {B : Nat} {v : Value} {ys : List UInt8} (h : Own w B v ys) : Wr w B v ys := by
  have h' := h
  rcases h.2 with ⟨rfl, h0⟩ | ⟨g, cap, cur, rfl, hb, hg, hn, hc, _⟩
  · exact .inl ⟨rfl, List.length_eq_zero_iff.1 h0⟩
  · refine .inr ⟨g, cap, rfl, hb, hn, hc, (Array.getElem?_eq_some_iff.1 hg).1, fun i hi => ⟨?_, World.ownsRow.frozenAt h' i⟩⟩
    have := World.ownsRow.cellAt h' i (by omega)
    rw [BV_get ys i hi] at this
    exact this
theorem Wr.kept {w w' : World} {B : Nat} {v : Value} {ys : List UInt8} {row : Option Nat} (h : Wr w B v ys) (hg : w.grownBy w' row) (hr : ∀ k, row = some k → k < B) : Wr w' B v ys := by
  rcases h with h | ⟨g, cap, hv, hB, h1, h2, h3, h4⟩
  · exact .inl h
  · have hb := hg.block g h3 (fun e => by have := hr g e.symm; omega)
    exact .inr ⟨g, cap, hv, hB, h1, h2, by have := hg.size; omega, fun i hi => ⟨(World.cell?_of_block (w := w) (a := ⟨g, i, none⟩) hb).trans (h4 i hi).1, (World.frozen?_of_block (w := w) (a := ⟨g, i, none⟩) hb).trans (h4 i hi).2⟩⟩
theorem Wr.conv {w : World} {B : Nat} {v : Value} {ys : List UInt8} (h : Wr w B v ys) : (convert 22 9 v).run Tryz.prog w = .ok (.string ⟨ys.toArray⟩) w := by
  rcases h with ⟨rfl, rfl⟩ | ⟨g, cap, rfl, _, _, _, _, h4⟩
  · exact run_convert_bytes_nil w 22 5 Tryz.underlying22 Tryz.underlying5 0 0 9 Tryz.underlying9
  · exact conv_at w g 0 ys.length cap ys rfl fun j hj => by rw [Nat.zero_add]; exact (h4 j hj).1
theorem Wr.rd {w : World} {B : Nat} {v : Value} {ys : List UInt8} (h : Wr w B v ys) : Rd w v ys := by
  rcases h with ⟨rfl, rfl⟩ | ⟨g, cap, rfl, _, h1, h2, _, h4⟩
  · exact ⟨none, 0, rfl, Nat.le_refl _, Nat.zero_le _, .inl rfl⟩
  · exact ⟨some ⟨g, 0, none⟩, cap, rfl, h1, h2, .inr ⟨g, 0, rfl, fun i hi => by rw [Nat.zero_add]; exact (h4 i hi).1⟩⟩
theorem Wr.below {w w' : World} {B : Nat} {v : Value} {ys : List UInt8} (h : Wr w B v ys) (hb : Below w.heap.size w w') : Wr w' B v ys := by
  rcases h with h | ⟨g, cap, hv, hB, h1, h2, h3, h4⟩
  · exact .inl h
  · exact .inr ⟨g, cap, hv, hB, h1, h2, by have := hb.size; omega, fun i hi => ⟨(hb.cell (p := ⟨g, i, none⟩) h3).trans (h4 i hi).1, (hb.frozen (p := ⟨g, i, none⟩) h3).trans (h4 i hi).2⟩⟩
theorem Wr.mono {w : World} {B B' : Nat} {v : Value} {ys : List UInt8} (h : Wr w B v ys) (hB : B' ≤ B) : Wr w B' v ys := by
  rcases h with h | ⟨g, cap, hv, h1, h2⟩
  · exact .inl h
  · exact .inr ⟨g, cap, hv, by omega, h2⟩
theorem bytes_new (w : World) (s : ByteArray) (hs : s.size ≤ maxLen) : Wr (Lib.bytesWorld w 5 s) w.heap.size (.slice (some ⟨w.heap.size, 0, none⟩) s.size (grownCap w s.size 0 5)) s.data.toList := by
  have hl : s.data.toList.length = s.size := by rw [Array.length_toList]; rfl
  refine .inr ⟨w.heap.size, _, by rw [hl], Nat.le_refl _, by rw [hl]; exact grownCap_ge w s.size 0 _, grownCap_le_maxLen w s.size 0 _ hs, by rw [Lib.bytesWorld_size]; omega, fun i hi => ⟨?_, ?_⟩⟩
  · rw [Lib.bytesWorld_cell w _ s i (by omega)]
    simp [List.getD, List.getElem?_eq_getElem hi]
  · have hc : s.size ≤ (Lib.bytesCells w 5 s).size := by unfold Lib.bytesCells; simp
    simp only [World.frozen?, Lib.bytesWorld_at_new]
    simp
    omega
theorem bytes_grown (w : World) (s : ByteArray) (row : Option Nat) : w.grownBy (Lib.bytesWorld w 5 s) row :=
  ⟨rfl, rfl, rfl, by rw [Lib.bytesWorld_size]; omega, fun k hk _ => Lib.bytesWorld_at_old w _ s k hk⟩
theorem Wr.stored {w : World} {B g cap : Nat} {ys : List UInt8} (hB : B ≤ g) (h1 : ys.length ≤ cap) (h2 : cap ≤ maxLen) (h3 : g < w.heap.size) (h4 : ∀ i (h : i < ys.length), w.cell? ⟨g, i, none⟩ = some (.int .u8 (ys[i].toNat : Int)) ∧ w.frozen? ⟨g, i, none⟩ = false) (k : Nat) (hk : k < ys.length) (b : UInt8) :
    Wr (w.setCell ⟨g, k, none⟩ (.int .u8 (b.toNat : Int))) B (.slice (some ⟨g, 0, none⟩) ys.length cap) (ys.set k b) := by
  refine .inr ⟨g, cap, by rw [List.length_set], hB, by rw [List.length_set]; exact h1, h2, by simpa using h3, fun i hi => ?_⟩
  rw [List.length_set] at hi
  refine ⟨?_, (World.frozen?_setCell _ _ _ _).trans (h4 i hi).2⟩
  by_cases hik : k = i
  · subst hik
    rw [World.cell?_setCell_same _ _ _ (h4 k hk).1]
    simp
  · rw [World.cell?_setCell_other _ _ _ _ (by simp), (h4 i hi).1]
    simp [hik]
theorem Wr.headed {w : World} {B g cap : Nat} {ys : List UInt8} (hB : B ≤ g) (h1 : ys.length ≤ cap) (h2 : cap ≤ maxLen) (h3 : g < w.heap.size) (h4 : ∀ i (h : i < ys.length), w.cell? ⟨g, i, none⟩ = some (.int .u8 (ys[i].toNat : Int)) ∧ w.frozen? ⟨g, i, none⟩ = false) (k : Nat) (hk : k < ys.length) :
    Wr w B (.slice (some ⟨g, 0, none⟩) k cap) (ys.take k) := by
  have hl : (ys.take k).length = k := by rw [List.length_take]; omega
  refine .inr ⟨g, cap, by rw [hl], hB, by omega, h2, h3, fun i hi => ?_⟩
  rw [hl] at hi
  rw [List.getElem_take]
  exact h4 i (by omega)
def Keep (w0 w : World) (g : Nat) (W : World) : Prop := DCur w0 W g ∧ w.grownBy W (some g) ∧ g < w.heap.size
theorem Keep.step {w0 w W W' : World} {g : Nat} {row : Option Nat} (h : Keep w0 w g W) (hg : W.grownBy W' row) (hr : ∀ k, row = some k → w.heap.size ≤ k) : Keep w0 w g W' :=
  ⟨h.1.grow hg (fun k hk => by have := hr k hk; have := h.2.2; omega), gr_young h.2.1 hg hr, h.2.2⟩
theorem Keep.own {w0 w W W' : World} {g : Nat} (h : Keep w0 w g W) (hc : DCur w0 W' g) (hg : W.grownBy W' (some g)) : Keep w0 w g W' := ⟨hc, gr_trans h.2.1 hg, h.2.2⟩
def RowAt (W : World) (g1 : Nat) (ys : List UInt8) : Prop := g1 < W.heap.size ∧ ∀ i (h : i < ys.length), W.cell? ⟨g1, i, none⟩ = some (.int .u8 (ys[i].toNat : Int)) ∧ W.frozen? ⟨g1, i, none⟩ = false
theorem RowAt.step {W W' : World} {g1 : Nat} {ys : List UInt8} {row : Option Nat} (h : RowAt W g1 ys) (hg : W.grownBy W' row) (hr : row ≠ some g1) : RowAt W' g1 ys := by
  have hb := hg.block g1 h.1 (fun e => hr e.symm)
  exact ⟨by have := h.1; have := hg.size; omega, fun i hi => ⟨(World.cell?_of_block (w := W) (a := ⟨g1, i, none⟩) hb).trans (h.2 i hi).1, (World.frozen?_of_block (w := W) (a := ⟨g1, i, none⟩) hb).trans (h.2 i hi).2⟩⟩
theorem RowAt.head {W : World} {g1 k : Nat} {ys : List UInt8} (h : RowAt W g1 ys) (hk : k ≤ ys.length) : ∀ j u, (BV (ys.take k))[j]? = some u → W.cell? ((⟨g1, 0, none⟩ : Addr).add j) = some u := by
  intro j u hj
  have hjl : j < (ys.take k).length := by have := (List.getElem?_eq_some_iff.1 hj).1; rwa [BV_length] at this
  rw [BV_get _ j hjl] at hj
  cases hj
  rw [List.length_take] at hjl
  rw [Addr.add_lit, Nat.zero_add, (h.2 j (by omega)).1, List.getElem_take]
theorem RowAt.tail {W : World} {g1 k : Nat} {ys : List UInt8} (h : RowAt W g1 ys) : ∀ j u, (BV (ys.drop k))[j]? = some u → W.cell? ((⟨g1, k, none⟩ : Addr).add j) = some u := by
  intro j u hj
  have hjl : j < (ys.drop k).length := by have := (List.getElem?_eq_some_iff.1 hj).1; rwa [BV_length] at this
  rw [BV_get _ j hjl] at hj
  cases hj
  rw [List.length_drop] at hjl
  rw [Addr.add_lit, (h.2 (k + j) (by omega)).1, List.getElem_drop]
theorem BV_one (bs : List UInt8) : ∀ u ∈ BV bs, u.oneCell' = true := by
  intro u hu
  obtain ⟨_, _, rfl⟩ := List.mem_map.1 hu
  rfl
theorem own_joined {W : World} {B n m : Nat} {v : Value} {ys zs : List UInt8} (hn : n = ys.length) (hm : m = zs.length) (h : W.ownsRow B 5 1 v (n + m) (BV ys ++ BV zs)) : Own W B v (ys ++ zs) := by
  subst hn
  subst hm
  unfold Own
  rw [BV_append, List.length_append]
  exact h

theorem l1Bend_any (w0 w : World) (g : Nat) (s sgn : ByteArray) (h : DCur w0 w g) (hs : s.size ≤ 1048576) (hg0 : 0 < sgn.size) (hg1 : sgn.size ≤ 100) :
    Calls Tryz.prog 24 #[.pointer (some ⟨g, 0, none⟩), .string s, .string sgn] w fun e w' => TextD w0 w g (s.size + 3) e w' := by
  obtain ⟨i0, hi, hz0, hz1, hz2⟩ := info_parts Tryz.info5
  have hlt := h.lt
  have hcvb := conv_bytes w s
  have hwr := bytes_new w s (by unfold maxLen; omega)
  have hgr := bytes_grown w s (some g)
  have hdc := h.grow (bytes_grown w s none) (fun k hk => by cases hk)
  have hsl : s.data.toList.length ≤ s.size := by rw [Array.length_toList]; exact Nat.le_refl _
  generalize s.data.toList = ys0 at hwr hsl
  generalize Lib.bytesWorld w 5 s = W at hcvb hwr hgr hdc
  generalize grownCap w s.size 0 5 = c0 at hcvb hwr
  go_enter Tryz.func24, Tryz.ntmps24
  go_wp2_with fail
  refine (l1Below_any w0 _ g 3 hdc (by omega) (by omega)).mono ?_
  rintro e w1 ⟨x, rfl, hx0, hx1, hc, hg⟩
  have ho1 := hwr.kept hg (fun k hk => by simp at hk; omega)
  have hgr1 := gr_trans hgr hg
  clear hwr hdc hgr h hg hcvb
  go_wp2
  go_loopw [7, 8] (fun bb nn wr => ∃ (m : Nat) (ys : List UInt8), nn = .int .i64 m ∧ m ≤ 2 ∧ ys.length + m ≤ s.size + 2 ∧ Wr wr w.heap.size bb ys ∧ DCur w0 wr g ∧ w.grownBy wr (some g)) (fun _ nn _ => (intOf nn).toNat)
  case atStart =>
    obtain ⟨m, rfl⟩ := Int.eq_ofNat_of_zero_le hx0
    exact ⟨m, ys0, rfl, by omega, by omega, ho1, hc, hgr1⟩
  case round =>
    obtain ⟨m, ys, rfl, hm2, hym, ho, hdc, hgw⟩ := hrel
    clear ho1 hc hgr1
    have hsz := hgw.size
    have hcv := ho.conv
    have hend : (⟨ys.toArray⟩ : ByteArray).size ≤ s.size + 3 := by show ys.toArray.size ≤ _; simp; omega
    rcases ho with ⟨hv, hy⟩ | ⟨g1, cap, hv, hB, h1, h2, h3, h4⟩
    · subst hv
      subst hy
      by_cases hm : 0 < m
      · go_wp2
        go_ret
        exact ⟨_, rfl, hend, hdc, hgw⟩
      · go_wp2
        go_ret
        exact ⟨_, rfl, hend, hdc, hgw⟩
    subst hv
    by_cases hm : 0 < m
    · by_cases hl : 0 < ys.length
      · have H4 : Hid (∀ i (h : i < ys.length), wr.cell? ⟨g1, i, none⟩ = some (.int .u8 (ys[i].toNat : Int)) ∧ wr.frozen? ⟨g1, i, none⟩ = false) := h4
        have Hmax : Hid (cap ≤ maxLen) := h2
        unfold maxLen at h2
        clear h4 hcv hend
        go_wp2_with fail
        refine (l1Below_any w0 _ g _ hdc (by omega) (by omega)).mono ?_
        rintro e w2 ⟨k', rfl, hk0, hk1, hc2, hg2⟩
        obtain ⟨k, rfl⟩ := Int.eq_ofNat_of_zero_le hk0
        have hkl : k < ys.length := by omega
        go_wp2_with fail
        refine (l1Below_any w0 _ g 4 hc2 (by omega) (by omega)).mono ?_
        rintro e w3 ⟨y, rfl, hy0, hy1, hc3, hg3⟩
        have hg23 := gr_trans hg2 hg3
        have hgw3 := gr_trans hgw hg23
        have hb3 := hg23.block g1 h3 (fun e => by simp at e; omega)
        have h33 : g1 < w3.heap.size := by have := hg23.size; omega
        have H43 : Hid (∀ i (h : i < ys.length), w3.cell? ⟨g1, i, none⟩ = some (.int .u8 (ys[i].toNat : Int)) ∧ w3.frozen? ⟨g1, i, none⟩ = false) := fun i hi => ⟨(World.cell?_of_block (w := wr) (a := ⟨g1, i, none⟩) hb3).trans (H4.out i hi).1, (World.frozen?_of_block (w := wr) (a := ⟨g1, i, none⟩) hb3).trans (H4.out i hi).2⟩
        have hsz3 := hgw3.size
        clear hb3 hg23 hg2 hg3 hc2 H4 hdc hgw hk0
        by_cases e0 : y = 0
        · subst e0
          go_wp2_with fail
          refine (l1Below_any w0 _ g _ hc3 (by omega) (by omega)).mono ?_
          rintro e w4 ⟨z', rfl, hq0, hq1, hc4, hg4⟩
          obtain ⟨z, rfl⟩ := Int.eq_ofNat_of_zero_le hq0
          have hzl : z < sgn.size := by omega
          have hb4 := hg4.block g1 h33 (fun e => by simp at e; omega)
          have H44 : Hid (∀ i (h : i < ys.length), w4.cell? ⟨g1, i, none⟩ = some (.int .u8 (ys[i].toNat : Int)) ∧ w4.frozen? ⟨g1, i, none⟩ = false) := fun i hi => ⟨(World.cell?_of_block (w := w3) (a := ⟨g1, i, none⟩) hb4).trans (H43.out i hi).1, (World.frozen?_of_block (w := w3) (a := ⟨g1, i, none⟩) hb4).trans (H43.out i hi).2⟩
          obtain ⟨hck, hfk⟩ := H44.out k hkl
          have h34 : g1 < w4.heap.size := by have := hg4.size; omega
          have hgw4 := gr_trans hgw3 hg4
          clear hb4 H43 hc3 hgw3 hg4 hq0
          have R1 : Wr (w4.setCell ⟨g1, k, none⟩ (.int .u8 ((sgn[z]'hzl).toNat : Int))) w.heap.size (.slice (some ⟨g1, 0, none⟩) ys.length cap) (ys.set k (sgn[z]'hzl)) := Wr.stored hB h1 Hmax.out h34 H44.out k hkl _
          have R2 : DCur w0 (w4.setCell ⟨g1, k, none⟩ (.int .u8 ((sgn[z]'hzl).toNat : Int))) g := hc4.grow (set_grown _) (fun j hj => by simp at hj; omega)
          have R3 : w.grownBy (w4.setCell ⟨g1, k, none⟩ (.int .u8 ((sgn[z]'hzl).toNat : Int))) (some g) := gr_young hgw4 (set_grown _) (fun j hj => by simp at hj; omega)
          clear hc4 hgw4 H44
          go_wp2
          go_roundw
          case rel => exact ⟨m - 1, _, by go_num, by omega, by rw [List.length_set]; omega, R1, R2, R3⟩
          case measure => simp [intOf]; omega
        by_cases e1 : y = 1
        · subst e1
          have R1 := Wr.headed hB h1 Hmax.out h33 H43.out k hkl
          have R4 : (ys.take k).length ≤ ys.length := by rw [List.length_take]; omega
          generalize ys.take k = zs at R1 R4
          go_wp2
          go_roundw
          case rel => exact ⟨m - 1, zs, by go_num, by omega, by omega, R1, hc3, hgw3⟩
          case measure => simp [intOf]; omega
        by_cases e2 : y = 2
        · subst e2
          have HK : Keep w0 w g w3 := ⟨hc3, hgw3, hlt⟩
          have HR : RowAt w3 g1 ys := ⟨h33, H43.out⟩
          have HK1 : Keep w0 w g (w3.alloc (.cells #[] 5)).drew := HK.step (gr_drewN (gr_alloc (gr_refl w3 none) _) 1) (fun k hk => by cases hk)
          have HR1 : RowAt (w3.alloc (.cells #[] 5)).drew g1 ys := HR.step (gr_drewN (gr_alloc (gr_refl w3 none) (.cells #[] 5)) 1) (fun e => by cases e)
          have HA1 : ((w3.alloc (.cells #[] 5)).drew).ownsRow w.heap.size 5 1 (.slice (some ⟨w3.heap.size, 0, none⟩) 0 0) 0 (BV []) := (own_none w3).mono hsz3
          have htk : (ys.take k).length = k := by rw [List.length_take]; omega
          have hdk : (ys.drop (k + 1)).length = ys.length - (k + 1) := List.length_drop
          have HZ : Hid (w3.heap.size ≠ g1) := by show _ ≠ _; omega
          have Htk : Hid ((ys.take k).length = k) := htk
          have Hdk : Hid ((ys.drop (k + 1)).length = ys.length - (k + 1)) := hdk
          have hkc : k ≤ cap := by omega
          have hkc1 : k + 1 ≤ ys.length := by omega
          have hkc2 : (k : Int) + 1 ≤ (ys.length : Int) := by omega
          have hkc3 : k ≤ ys.length := by omega
          have hkc4 : k + 1 ≤ cap := by omega
          have hbs : ys.length ≤ 1048578 := by omega
          clear htk hdk HK HR hc3 hgw3 H43
          by_cases hcap : cap = k + 1
          · subst hcap
            have hnil : ys.drop (k + 1) = [] := List.drop_eq_nil_of_le h1
            have Hnil : Hid (ys.drop (k + 1) = []) := hnil
            have hl0 : ys.length - (k + 1) = 0 := by omega
            have hki : (k : Int) ≤ (k : Int) + 1 := by omega
            clear hnil
            go_wp2
            have hwr1 : IntKind.i64.wrap ((k : Int) + 1) = (k : Int) + 1 := by rw [IntKind.wrap_i64]; omega
            have htn1 : ((k : Int) + 1).toNat = k + 1 := by omega
            have hnn1 : (0 : Int) ≤ (k : Int) + 1 := by omega
            go_region_law (first
              | (refine step_append_own rfl (.tmp 47) (.tmp 50) 22 rfl w.heap.size 5 i0 (.int .u8 0) 1 1 Tryz.underlying22 hi hz0 hz1 hz2 rfl (by decide) (.slice (some ⟨w3.heap.size, 0, none⟩) 0 0) 0 (BV []) rfl HA1 ⟨g1, 0, none⟩ k (k + 1) (BV (ys.take k)) rfl (by rw [BV_length, Htk.out, Nat.mul_one]) (HR1.head hkc3) (BV_one _) (by unfold maxLen; omega) (by omega) (by simp; omega) ?_; intro v1 wA hoA hgA; have HKA := HK1.step hgA (fun j hj => (World.ownsRow.lt HA1 j hj).1); have HRA := HR1.step hgA (fun e => HZ.out (by simpa [Value.ownBlock] using e)))
              | (refine step_append_own rfl (.tmp 51) (.tmp 55) 22 rfl w.heap.size 5 i0 (.int .u8 0) 1 1 Tryz.underlying22 hi hz0 hz1 hz2 rfl (by decide) v1 _ _ rfl hoA ⟨g1, 0, none⟩ 0 0 (BV (ys.drop (k + 1))) rfl (by rw [Hnil.out]; rfl) (fun j u hj => by rw [Hnil.out] at hj; simp [BV] at hj) (BV_one _) (by unfold maxLen; omega) (by omega) (by have := hgA.size; simp at this; omega) ?_; intro v2 wB hoB hgB))
            have R1 : Own wB w.heap.size v2 (ys.take k ++ ys.drop (k + 1)) := by
              have h := hoB
              rw [show BV [] = [] from rfl, List.nil_append, Nat.zero_add] at h
              exact own_joined Htk.out.symm (by rw [Hnil.out]; rfl) h
            have HKB := HKA.step hgB (fun j hj => (World.ownsRow.lt hoA j hj).1)
            have R4 : (ys.take k ++ ys.drop (k + 1)).length ≤ ys.length := by rw [List.length_append, Htk.out, Hdk.out]; omega
            have R1' := R1.wr
            generalize ys.take k ++ ys.drop (k + 1) = zs at R1' R4
            obtain ⟨R2, R3, _⟩ := HKB
            clear hwr1 htn1 hnn1 hoA hgA HKA HRA hoB hgB R1 HK1 HR1 HA1 hl0
            go_wp2
            go_roundw
            case rel => exact ⟨m - 1, zs, by go_num, by omega, by omega, R1', R2, R3⟩
            case measure => simp [intOf]; omega
          · go_wp2
            have hwr1 : IntKind.i64.wrap ((k : Int) + 1) = (k : Int) + 1 := by rw [IntKind.wrap_i64]; omega
            have htn1 : ((k : Int) + 1).toNat = k + 1 := by omega
            have hnn1 : (0 : Int) ≤ (k : Int) + 1 := by omega
            go_region_law (first
              | (refine step_append_own rfl (.tmp 47) (.tmp 50) 22 rfl w.heap.size 5 i0 (.int .u8 0) 1 1 Tryz.underlying22 hi hz0 hz1 hz2 rfl (by decide) (.slice (some ⟨w3.heap.size, 0, none⟩) 0 0) 0 (BV []) rfl HA1 ⟨g1, 0, none⟩ k cap (BV (ys.take k)) rfl (by rw [BV_length, Htk.out, Nat.mul_one]) (HR1.head hkc3) (BV_one _) (by unfold maxLen; omega) (by omega) (by simp; omega) ?_; intro v1 wA hoA hgA; have HKA := HK1.step hgA (fun j hj => (World.ownsRow.lt HA1 j hj).1); have HRA := HR1.step hgA (fun e => HZ.out (by simpa [Value.ownBlock] using e)))
              | (refine step_append_own rfl (.tmp 51) (.tmp 55) 22 rfl w.heap.size 5 i0 (.int .u8 0) 1 1 Tryz.underlying22 hi hz0 hz1 hz2 rfl (by decide) v1 _ _ rfl hoA ⟨g1, k + 1, none⟩ (ys.length - (k + 1)) (cap - (k + 1)) (BV (ys.drop (k + 1))) rfl (by rw [BV_length, Hdk.out, Nat.mul_one]) HRA.tail (BV_one _) (by unfold maxLen; omega) (by omega) (by have := hgA.size; simp at this; omega) ?_; intro v2 wB hoB hgB))
            have R1 : Own wB w.heap.size v2 (ys.take k ++ ys.drop (k + 1)) := by
              have h := hoB
              rw [show BV [] = [] from rfl, List.nil_append, Nat.zero_add] at h
              exact own_joined Htk.out.symm Hdk.out.symm h
            have HKB := HKA.step hgB (fun j hj => (World.ownsRow.lt hoA j hj).1)
            have R4 : (ys.take k ++ ys.drop (k + 1)).length ≤ ys.length := by rw [List.length_append, Htk.out, Hdk.out]; omega
            have R1' := R1.wr
            generalize ys.take k ++ ys.drop (k + 1) = zs at R1' R4
            obtain ⟨R2, R3, _⟩ := HKB
            clear hwr1 htn1 hnn1 hoA hgA HKA HRA hoB hgB R1 HK1 HR1 HA1
            go_wp2
            go_roundw
            case rel => exact ⟨m - 1, zs, by go_num, by omega, by omega, R1', R2, R3⟩
            case measure => simp [intOf]; omega
        · have e3 : y = 3 := by omega
          subst e3
          have HK : Keep w0 w g w3 := ⟨hc3, hgw3, hlt⟩
          have HR : RowAt w3 g1 ys := ⟨h33, H43.out⟩
          have HK1 : Keep w0 w g (w3.alloc (.cells #[] 5)).drew := HK.step (gr_drewN (gr_alloc (gr_refl w3 none) _) 1) (fun k hk => by cases hk)
          have HR1 : RowAt (w3.alloc (.cells #[] 5)).drew g1 ys := HR.step (gr_drewN (gr_alloc (gr_refl w3 none) (.cells #[] 5)) 1) (fun e => by cases e)
          have HA1 : ((w3.alloc (.cells #[] 5)).drew).ownsRow w3.heap.size 5 1 (.slice (some ⟨w3.heap.size, 0, none⟩) 0 0) 0 (BV []) := own_none w3
          have Htk : Hid ((ys.take k).length = k) := by show _ = _; rw [List.length_take]; omega
          have Hdk : Hid ((ys.drop k).length = ys.length - k) := List.length_drop
          have hgg : g < w3.heap.size := by omega
          have hkc : k ≤ cap := by omega
          have hkc2 : (k : Int) ≤ (ys.length : Int) := by omega
          have hkc3 : k ≤ ys.length := by omega
          have hkc4 : ¬ cap = k := by omega
          have hbs : ys.length ≤ 1048578 := by omega
          clear HK HR hc3 hgw3 H43
          go_wp2
          go_region_law (first
            | (refine step_append_own rfl (.tmp 59) (.tmp 62) 22 rfl w3.heap.size 5 i0 (.int .u8 0) 1 1 Tryz.underlying22 hi hz0 hz1 hz2 rfl (by decide) (.slice (some ⟨w3.heap.size, 0, none⟩) 0 0) 0 (BV []) rfl HA1 ⟨g1, 0, none⟩ k cap (BV (ys.take k)) rfl (by rw [BV_length, Htk.out, Nat.mul_one]) (HR1.head hkc3) (BV_one _) (by unfold maxLen; omega) (by omega) (by simp) ?_; intro v1 wA hoA hgA; have HKA := HK1.step hgA (fun j hj => by have := (World.ownsRow.lt HA1 j hj).1; omega); have HRA := HR1.step hgA (fun e => by have := (World.ownsRow.lt HA1 _ e).1; omega); have hsA : w3.heap.size ≤ wA.heap.size := by (have := hgA.size; simp at this; omega))
            | (refine step_append_own rfl (.tmp 63) (.tmp 70) 22 rfl w3.heap.size 5 i0 (.int .u8 0) 1 1 Tryz.underlying22 hi hz0 hz1 hz2 rfl (by decide) v1 _ _ rfl (World.ownsRow.alloc hoA4 _) ⟨w4.heap.size, 0, none⟩ 1 1 [.int .u8 ((sgn[z]'hzl).toNat : Int)] rfl rfl (one_new _ _ _) (by intro u hu; simp at hu; subst hu; rfl) (by unfold maxLen; omega) (by omega) (by simp; omega) ?_; intro v2 wB hoB hgB; have HKB := (HK4.step (gr_alloc (gr_refl w4 none) _) (fun j hj => by cases hj)).step hgB (fun j hj => by have := (World.ownsRow.lt hoA4 j hj).1; omega); have HRB := (HR4.step (gr_alloc (gr_refl w4 none) _) (fun e => by cases e)).step hgB (fun e => by have := (World.ownsRow.lt hoA4 _ e).1; omega); have hsB : w3.heap.size ≤ wB.heap.size := by (have := hgB.size; simp at this; omega))
            | (refine step_append_own rfl (.tmp 71) (.tmp 74) 22 rfl w3.heap.size 5 i0 (.int .u8 0) 1 1 Tryz.underlying22 hi hz0 hz1 hz2 rfl (by decide) v2 _ _ rfl hoB ⟨g1, k, none⟩ (ys.length - k) (cap - k) (BV (ys.drop k)) rfl (by rw [BV_length, Hdk.out, Nat.mul_one]) HRB.tail (BV_one _) (by unfold maxLen; omega) (by omega) hsB ?_; intro v3 wC hoC hgC)
            | (go_simp; go_wp2_with (go_at_call 21; (refine (l1Below_any w0 _ g _ HKA.1 (by omega) (by omega)).mono ?_; rintro e w4 ⟨z', rfl, hq0, hq1, hc4, hg4⟩; obtain ⟨z, rfl⟩ := Int.eq_ofNat_of_zero_le hq0; have hzl : z < sgn.size := (by omega); have HK4 := HKA.own hc4 hg4; have HR4 := HRA.step hg4 (fun e => by have := Option.some.inj e; omega); have hoA4 := row_kept hoA hg4 (fun j hj e => by have := (World.ownsRow.lt hoA j hj).1; have := Option.some.inj e; omega); have hs4 : w3.heap.size ≤ w4.heap.size := by (have := hg4.size; omega)))))
          have R1 : Own wC w3.heap.size v3 ((ys.take k ++ [sgn[z]'hzl]) ++ ys.drop k) := by
            have h := hoC
            rw [show BV [] = [] from rfl, List.nil_append, Nat.zero_add] at h
            exact own_joined (ys := ys.take k ++ [sgn[z]'hzl]) (by rw [List.length_append, Htk.out, List.length_singleton]) Hdk.out.symm (by rw [BV_append]; exact h)
          have HKC := HKB.step hgC (fun j hj => by have := (World.ownsRow.lt hoB j hj).1; omega)
          have R4 : ((ys.take k ++ [sgn[z]'hzl]) ++ ys.drop k).length ≤ ys.length + 1 := by rw [List.length_append, List.length_append, Htk.out, Hdk.out]; simp; omega
          have R1' := (R1.mono hsz3).wr
          generalize (ys.take k ++ [sgn[z]'hzl]) ++ ys.drop k = zs at R1' R4
          obtain ⟨R2, R3, _⟩ := HKC
          clear hoA hgA HKA HRA hoB hgB R1 HK1 HR1 HA1 hoC hgC HKB HRB hoA4 HK4 HR4 hc4 hg4
          go_wp2
          go_roundw
          case rel => exact ⟨m - 1, zs, by go_num, by omega, by omega, R1', R2, R3⟩
          case measure => simp [intOf]; omega
      · go_wp2
        go_ret
        exact ⟨_, rfl, hend, hdc, hgw⟩
    · go_wp2
      go_ret
      exact ⟨_, rfl, hend, hdc, hgw⟩
open Go.RowKit
def SomeT (w : World) (m : Nat) (e : Ending) (w' : World) : Prop := ∃ s : ByteArray, e = .returned (.string s) ∧ s.size ≤ m ∧ Below w.heap.size w w'
theorem recS_size {t : ByteArray} (h : t.size ≤ 9) : (recS t).size ≤ 4000 := by
  rw [recS_in (by omega)]
  exact (recT_size (by omega)).2
theorem drawRecords_any (v : Value) (bs : List UInt8) (w : World) (hr : Rd w v bs) (hb : bs.length ≤ 4096) :
    Calls Tryz.prog 5 #[v] w fun e w' => SomeT w 20003 e w' := by
  obtain ⟨va, vc, hv, -⟩ := id hr
  subst hv
  go_enter Tryz.func5, Tryz.ntmps5
  go_wp2_with fail
  refine (l1New_any _ bs _ hr hb).mono ?_
  rintro e w1 ⟨g, rfl, hc⟩
  go_wp2_with fail
  refine (l1Below_any w _ g 5 hc (by omega) (by omega)).mono ?_
  rintro e w2 ⟨x, rfl, hx0, hx1, hc2, hg2⟩
  obtain ⟨m0, rfl⟩ := Int.eq_ofNat_of_zero_le hx0
  have hm0 : m0 ≤ 4 := by omega
  clear hc hg2 hx0 hx1 hr hb
  go_wp2
  go_loopw [4, 5] (fun ss nn wr => ∃ (m : Nat) (s : ByteArray), nn = .int .i64 (m : Int) ∧ ss = .string s ∧ m ≤ 4 ∧ s.size + 4000 * m ≤ 16000 ∧ Hid (DCur w wr g)) (fun _ nn _ => (intOf nn).toNat)
  case atStart => exact ⟨m0, ⟨#[]⟩, rfl, rfl, hm0, by show 0 + 4000 * m0 ≤ 16000; omega, hc2⟩
  case round =>
    obtain ⟨m, s, rfl, rfl, hm, hs, HC⟩ := hrel
    clear hc2
    by_cases hmp : 0 < m
    · obtain ⟨k, rfl⟩ : ∃ k, m = k + 1 := ⟨m - 1, by omega⟩
      have hki : ((k + 1 : Nat) : Int) - 1 = (k : Int) := by omega
      have hkp : (0 : Int) < ((k + 1 : Nat) : Int) := by omega
      go_wp2_with fail
      refine (l1DrawText_any w _ g HC.out).mono ?_
      rintro e w3 ⟨t, rfl, ht, hc3, hg3⟩
      have HR : Hid ((recS t).size ≤ 4000) := recS_size ht
      go_wp2_with fail
      refine (specRecord_any t _ (by omega)).mono ?_
      have hr4 := HR.out
      generalize recS t = r at hr4
      rintro e w4 ⟨rfl, hb4⟩
      have hc4 : Hid (DCur w w4 g) := hc3.below hb4
      have hsz : s.size + r.size ≤ 1000000 := by omega
      have hs2 : (s ++ r).size + 4000 * k ≤ 16000 := by rw [app_size]; omega
      clear HC hc3 hg3 hb4 HR
      go_wp2
      go_roundw
      case rel => exact ⟨k, s ++ r, by go_num, rfl, by omega, hs2, hc4⟩
      case measure => simp [intOf]
    · have hm0 : m = 0 := by omega
      subst hm0
      have hs2 : s.size ≤ 16000 := by omega
      go_wp2_with fail
      refine (l1Once_any w _ g 2 HC.out (by omega) (by omega)).mono ?_
      rintro e w3 ⟨b, rfl, hc3, hg3⟩
      cases b with
      | false =>
        have bel := hc3.bel
        clear HC hc3 hg3
        go_wp2
        go_ret
        exact ⟨s, rfl, by omega, bel⟩
      | true =>
        go_wp2_with fail
        refine (l1Bend_any w _ g s ⟨#[48, 49, 32, 10, 97]⟩ hc3 (by omega) (by decide) (by decide)).mono ?_
        rintro e w4 ⟨t, rfl, ht, hc4, hg4⟩
        have bel := hc4.bel
        clear HC hc3 hg3 hc4 hg4
        go_wp2
        go_ret
        exact ⟨t, rfl, by omega, bel⟩
theorem batS_small {xs : List Wri} : (batS xs).size ≤ 700000 := by
  unfold batS
  split
  · rw [← size_length, batT_list]
    exact textsOf_len _
  · exact Nat.zero_le _
theorem drawReadBatch_any (v : Value) (bs : List UInt8) (w : World) (hr : Rd w v bs) (hb : bs.length ≤ 4096) :
    Calls Tryz.prog 10 #[v] w fun e w' => SomeT w 700003 e w' := by
  obtain ⟨va, vc, hv, -⟩ := id hr
  subst hv
  go_enter Tryz.func10, Tryz.ntmps10
  go_wp2_with fail
  refine (l1New_any _ bs _ hr hb).mono ?_
  rintro e w1 ⟨g, rfl, hc⟩
  go_wp2_with fail
  refine (l7DrawBatch_any w _ g hc).mono ?_
  rintro e w2 ⟨u, xs, rfl, ho2, hl2, hs2, hc2, hg2⟩
  clear hc hg2 hr hb
  go_wp2_with fail
  refine (specBatch_any u xs _ ho2.rd (fun x hx => ⟨by have := (hs2 x hx).1; omega, by have := (hs2 x hx).2; omega⟩)).mono ?_
  have hz := batS_small (xs := xs)
  generalize batS xs = s at hz
  rintro e w3 ⟨rfl, hb3⟩
  have hc3 := hc2.below hb3
  clear hc2 hb3 ho2 hs2
  go_wp2_with fail
  refine (l1Once_any w _ g 2 hc3 (by omega) (by omega)).mono ?_
  rintro e w4 ⟨b, rfl, hc4, hg4⟩
  clear hc3 hg4
  cases b with
  | false =>
    have bel := hc4.bel
    clear hc4
    go_wp2
    go_ret
    exact ⟨s, rfl, by omega, bel⟩
  | true =>
    go_wp2_with fail
    refine (l1Bend_any w _ g s ⟨#[0, 1, 3, 97, 49]⟩ hc4 (by omega) (by decide) (by decide)).mono ?_
    rintro e w5 ⟨t, rfl, ht, hc5, hg5⟩
    have bel := hc5.bel
    clear hc4 hc5 hg5
    go_wp2
    go_ret
    exact ⟨t, rfl, by omega, bel⟩
theorem isRec_of_pre {d d' : List UInt8} {t : ByteArray} (h : d' <+: d) (hr : isRec d' t) : isRec d t := by
  obtain ⟨h1, h2⟩ := isRec_iff.1 hr
  exact isRec_iff.2 ⟨h1, h2.trans h⟩
theorem recs_pre : ∀ (cs ts : List ByteArray) (d d' : List UInt8) (n k : Nat), d' <+: d → RecsP d ts n → RecsP d' cs k → cs <+: ts ∧ k ≤ n
  | [], ts, d, d', n, k, _, _, hc => by
    rcases recs_next hc with ⟨t, r, m, e, _⟩ | ⟨_, e, _⟩
    · cases e
    · exact ⟨List.nil_prefix, by omega⟩
  | c :: cs, ts, d, d', n, k, hp, ht, hc => by
    rcases recs_next hc with ⟨t, r, m, e, e2, h1, h2⟩ | ⟨e, _⟩
    · injection e with e3 e4
      subst e3
      subst e4
      have h3 := isRec_of_pre hp h1
      rcases recs_next ht with ⟨t', r', m', e5, e6, h5, h6⟩ | ⟨_, _, h0⟩
      · obtain rfl := isRec_unique h5 h3
        have hle : (recT t').size ≤ d'.length := by have := rec_len h1; rw [recT_len]; exact this
        have hp2 : (d'.drop (recT t').size) <+: (d.drop (recT t').size) := by
          obtain ⟨r0, rfl⟩ := hp
          exact ⟨r0, by rw [List.drop_append_of_le_length hle]⟩
        obtain ⟨h7, h8⟩ := recs_pre cs r' _ _ _ _ hp2 h6 h2
        rw [e5, e2, e6]
        exact ⟨List.prefix_cons_inj _ |>.2 h7, by omega⟩
      · exact absurd h3 (h0 _)
    · cases e
theorem recs_again {d : List UInt8} {ts : List ByteArray} {n : Nat} (h : RecsP d ts n) : (ts.map fun t => (recS t).data.toList).flatten = d.take n := by
  rw [h.2.2.1]
  congr 1
  refine List.map_congr_left (fun t ht => ?_)
  rw [recS_in (h.1 t ht)]
end Go.Proofs.YtpbbahpndgigjaaGreatDoor
