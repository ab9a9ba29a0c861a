/- Entries that came in as an argument of a law: what is read of them. The contracts of the laws' own helpers over rows of tables and trees: measured, copied, alike. -/
import Derived.Test.YtjnhhdnfncfedaaGreatG02
import Derived.OpenShut
import Derived.Deep.Slices
import Derived.ChangeArms
import Derived.Test.YtjnhhdnfncfedaaGreatG18
import Derived.Test.YtjnhhdnfncfedaaGreatTreSpec6
import Derived.Test.YtjnhhdnfncfedaaGreatG36
import Derived.Test.YtjnhhdnfncfedaaGreatTreSpec2
namespace Go.Proofs.YtjnhhdnfncfedaaGreat
open Go.RowKit Go.ChangeShapes Go.WideShapes
/-- An entry such as a program can hold. -/
def Held (e : Ent) : Prop := e.key.size ≤ maxLen ∧ e.val.size ≤ maxLen ∧ -9223372036854775808 ≤ e.seq ∧ e.seq ≤ 9223372036854775807
theorem cells9 : Tryz.prog.cellsOf 9 = 1 := by kernel_rfl
theorem cells2 : Tryz.prog.cellsOf 2 = 1 := by kernel_rfl
theorem cells4 : Tryz.prog.cellsOf 4 = 1 := by kernel_rfl
theorem cells78 : Tryz.prog.cellsOf 78 = 4 := by kernel_rfl
set_option maxRecDepth 100000 in
theorem open_ent {H : Type} {enc : TypeId × Value → H} {w : World} {base : Nat} {spare : Nat → Bool} {held : Bool} {fuel : Nat} {cs : List Value} {x : DataW H × List MemPlace} (h : DataW.trod enc Tryz.prog w base spare held fuel 78 cs = some x) :
    ∃ e : Ent, cs = EC e ∧ Held e := by
  obtain ⟨xs, n, _, _, hl, hxl, hf⟩ := DataW.trod_struct Tryz.underlying78 h
  rw [cells78] at hl
  match xs, hxl, cs, hl with
  | [y0, y1, y2, y3], _, [v0, v1, v2, v3], _ =>
    have g0 := hf 0 _ rfl
    have g1 := hf 1 _ rfl
    have g2 := hf 2 _ rfl
    have g3 := hf 3 _ rfl
    simp [cells9, cells2, cells4] at g0 g1 g2 g3
    obtain ⟨s0, h0, _, z0⟩ := DataW.trod_string Tryz.underlying9 g0
    obtain ⟨s1, h1, _, z1⟩ := DataW.trod_string Tryz.underlying9 g1
    obtain ⟨n2, h2, _, z2⟩ := DataW.trod_int Tryz.underlying2 g2
    obtain ⟨b3, h3, _⟩ := DataW.trod_bool Tryz.underlying4 g3
    simp only [List.cons.injEq, and_true] at h0 h1 h2 h3
    subst h0 h1 h2 h3
    exact ⟨⟨s0, s1, n2, b3⟩, rfl, z0, z1, bounds_i64 z2⟩
/-- A slice of entries that came in. -/
theorem open_ents {H : Type} {enc : TypeId × Value → H} {w : World} {held : Bool} {v : Value} {d : DataW H} {ps : List MemPlace} (h : DataW.Trod enc Tryz.prog w 0 (fun _ => true) held 22 v d ps) (hv : ∃ a len cap, v = .slice a len cap) :
    ∃ es, RdE w v es ∧ ∀ e ∈ es, Held e := by
  obtain ⟨fuel, hf⟩ := h
  obtain ⟨a0, len0, cap0, rfl⟩ := hv
  rcases Deep.open_slice Tryz.underlying22 hf with ⟨hcs, _⟩ | ⟨a, len, cap, m, n, D, Pl, hcs, _, hl, hm, hmm, _, hx⟩
  · simp [Value.cells] at hcs
    obtain ⟨rfl, rfl, rfl⟩ := hcs
    exact ⟨[], rdE_nil w, fun e he => by cases he⟩
  · simp [Value.cells] at hcs
    obtain ⟨rfl, rfl, rfl⟩ := hcs
    simp only [if_true] at hmm
    subst hmm
    have each : ∀ i, i < m → ∃ e : Ent, w.cells? 0 (a.add (i * 4)) 4 = some (EC e) ∧ Held e := by
      intro i hi
      obtain ⟨cs', h1, h2⟩ := hx i hi
      rw [cells78] at h1
      obtain ⟨e, rfl, he⟩ := open_ent h2
      exact ⟨e, h1, he⟩
    obtain ⟨q, hq⟩ := Deep.choose_lt each
    obtain ⟨b, off, spot⟩ := a
    refine ⟨(List.range len0).map q, ⟨some ⟨b, off, spot⟩, m, by simp, by simpa using hl, hm, (fun h => by cases h), ?_⟩, fun e he => ?_⟩
    · by_cases h0 : len0 = 0
      · left; simp [h0]
      · right
        obtain ⟨_, _, hc0⟩ := World.cells?_some (hq 0 (by omega)).1
        have hc00 := hc0 0 (by omega)
        rw [Deep.add_add] at hc00
        have hc01 : w.cell? ((⟨b, off, spot⟩ : Addr).add 0) = some (.string (q 0).key) := hc00
        have hspot : spot = none := by
          have := World.cell?_spot hc01
          cases spot with
          | none => rfl
          | some sp => simp [Addr.add] at this
        subst hspot
        refine ⟨b, off, rfl, fun i hi => ?_⟩
        have hi' : i < len0 := by simpa using hi
        have hn : nth ((List.range len0).map q) i = q i := by rw [nth_eq hi]; simp
        rw [hn]
        obtain ⟨_, _, hc⟩ := World.cells?_some (hq i (by omega)).1
        have c0 := hc 0 (by omega)
        have c1 := hc 1 (by omega)
        have c2 := hc 2 (by omega)
        have c3 := hc 3 (by omega)
        rw [Deep.add_add, Addr.add_lit] at c0 c1 c2 c3
        exact ⟨by simpa [EC] using c0, by simpa [EC, Nat.add_assoc] using c1, by simpa [EC, Nat.add_assoc] using c2, by simpa [EC, Nat.add_assoc] using c3⟩
    · simp only [List.mem_map, List.mem_range] at he
      obtain ⟨i, hi, rfl⟩ := he
      exact (hq i (by omega)).2
end Go.Proofs.YtjnhhdnfncfedaaGreat
namespace Go.Proofs.YtjnhhdnfncfedaaGreat
open Go.RowKit
set_option maxHeartbeats 400000 in
set_option maxRecDepth 100000 in
theorem szInts_at (v : Value) (ns : List Int) (l : Int) (w : World) (hr : RdI w v ns) (h0 : 0 ≤ l) (h1 : l ≤ 1048576) :
    Calls Tryz.prog 25 #[v, .int .i64 l] w fun e w' => w' = w ∧ ∃ x : Int, e = .returned (.int .i64 x) ∧ (x = -1 ∨ 0 ≤ x ∧ x + ns.length ≤ l) := by
  obtain ⟨a, cap, hv, hl, hm, _⟩ := id hr
  subst hv
  unfold maxLen at hm
  by_cases hb : l - (ns.length : Int) < 0
  · go_enter Tryz.func25, Tryz.ntmps25
    go_wp2
    go_ret
    exact ⟨rfl, -1, rfl, .inl rfl⟩
  · go_enter Tryz.func25, Tryz.ntmps25
    go_wp2
    go_ret
    exact ⟨rfl, _, rfl, .inr ⟨by omega, by omega⟩⟩
set_option maxHeartbeats 400000 in
set_option maxRecDepth 100000 in
theorem szTexts_at (v : Value) (ss : List ByteArray) (lf : Int) (w : World) (hr : RdS w v ss) (hsz : ∀ s ∈ ss, s.size ≤ maxLen) (hlf0 : 0 ≤ lf) (hlf1 : lf ≤ 1048576) :
    Calls Tryz.prog 80 #[v, .int .i64 lf] w fun e w' => w' = w ∧ ∃ x : Int, e = .returned (.int .i64 x) ∧ (x = -1 ∨ 0 ≤ x ∧ x + ss.length ≤ lf ∧ ∀ s ∈ ss, s.size ≤ 1048576) := by
  obtain ⟨a, cap, rfl, hl, hm, hA⟩ := hr
  unfold maxLen at hm
  have HSZ : Hid (∀ s ∈ ss, s.size ≤ maxLen) := hsz
  clear hsz
  by_cases hbig : lf < (ss.length : Int)
  · clear hA
    have hbn : lf - (ss.length : Int) < 0 := by omega
    go_enter Tryz.func80, Tryz.ntmps80
    go_wp2
    go_ret
    exact ⟨rfl, -1, rfl, .inl rfl⟩
  · have hbn : ¬ lf - (ss.length : Int) < 0 := by omega
    go_enter Tryz.func80, Tryz.ntmps80
    go_wp2
    go_loop [1, 5] (fun l i => ∃ (k : Nat) (x : Int), k ≤ ss.length ∧ i = .int .i64 k ∧ l = .int .i64 x ∧ 0 ≤ x ∧ x ≤ lf - (ss.length : Int) ∧ Hid (∀ j (h : j < ss.length), j < k → ss[j].size ≤ 1048576)) (fun _ i => ss.length - (intOf i).toNat)
    case atStart => exact ⟨0, _, Nat.zero_le _, rfl, rfl, by omega, by omega, fun j h h' => by omega⟩
    case round =>
      obtain ⟨k, x, hk, rfl, rfl, hx0, hx1, HJ⟩ := hrel
      by_cases hlt : k < ss.length
      · obtain ⟨b, off, ha, hc⟩ : ∃ b off, a = some ⟨b, off, none⟩ ∧ w.cell? ⟨b, off + k, none⟩ = some (.string ss[k]) := by
          rcases hA with h | ⟨b, off, ha, hc⟩
          · subst h; simp at hlt
          · exact ⟨b, off, ha, hc k hlt⟩
        rw [ha]
        have hsk := HSZ.out _ (List.getElem_mem hlt)
        unfold maxLen at hsk
        obtain ⟨s, hs⟩ : ∃ s, s = ss[k] := ⟨_, rfl⟩
        rw [← hs] at hc hsk
        have Hs : Hid (s = ss[k]) := hs
        clear hs hA
        by_cases hneg : x - (s.size : Int) < 0
        · go_wp2
          go_ret
          exact ⟨rfl, -1, rfl, .inl rfl⟩
        · go_wp2
          go_round
          case rel =>
            refine ⟨k + 1, _, by omega, by go_num, rfl, by omega, by omega, fun j h h' => ?_⟩
            by_cases hjk : j = k
            · subst hjk; rw [← Hs.out]; omega
            · exact HJ.out j h (by omega)
          case measure => simp [intOf]; omega
      · have hke : k = ss.length := by omega
        subst hke
        go_wp2
        go_ret
        refine ⟨rfl, x, rfl, .inr ⟨hx0, by omega, fun s hs => ?_⟩⟩
        obtain ⟨j, hj, rfl⟩ := List.getElem_of_mem hs
        exact HJ.out j hj hj
/-- All parts of a table are such as a program can be handed; are small. -/
def HeldT (T : Tbl) : Prop := T.first.size ≤ maxLen ∧ T.last.size ≤ maxLen ∧ ∀ s ∈ T.blocks, s.size ≤ maxLen
def SmallT (T : Tbl) : Prop := T.first.size ≤ 1048576 ∧ T.last.size ≤ 1048576 ∧ ∀ s ∈ T.blocks, s.size ≤ 1048576
def SzTA (w : World) (T : Tbl) (l : Int) (e : Ending) (w' : World) : Prop :=
  Below w.heap.size w w' ∧ ∃ z : Int, e = .returned (.int .i64 z) ∧ (z = -1 ∨ 0 ≤ z ∧ z + T.bits.length + T.blocks.length ≤ l ∧ SmallT T)
set_option maxHeartbeats 1000000 in
set_option maxRecDepth 100000 in
theorem szTable_at (T : Tbl) (vb vk : Value) (l : Int) (w : World) (hi : RdI w vb T.bits) (hk : RdS w vk T.blocks) (hh : HeldT T) (hl0 : 0 ≤ l) (hl1 : l ≤ 1048576) :
    Calls Tryz.prog 52 #[.agg #[.string T.first, .string T.last, vb, vk], .int .i64 l] w fun e w' => SzTA w T l e w' := by
  have t0 := tblAt_new w T vb vk 82
  have b0 := below1 w (.cells #[.string T.first, .string T.last, vb, vk] 82)
  obtain ⟨h1, h2, h3⟩ := hh
  have H3 : Hid (∀ s ∈ T.blocks, s.size ≤ maxLen) := h3
  unfold maxLen at h1 h2
  clear h3
  obtain ⟨d0, d1, d2, d3⟩ := id t0
  by_cases q1 : l - (T.first.size : Int) < 0
  · go_enter Tryz.func52, Tryz.ntmps52
    go_wp2
    go_ret
    exact ⟨b0, -1, rfl, .inl rfl⟩
  by_cases q2 : l - (T.first.size : Int) - (T.last.size : Int) < 0
  · go_enter Tryz.func52, Tryz.ntmps52
    go_wp2
    go_ret
    exact ⟨b0, -1, rfl, .inl rfl⟩
  go_enter Tryz.func52, Tryz.ntmps52
  go_wp2_with fail
  refine (szInts_at vb T.bits _ _ (hi.below b0) (by omega) (by omega)).mono ?_
  rintro e w1 ⟨hw1, x, rfl, hx⟩
  obtain rfl := hw1.symm
  rcases hx with hx | ⟨hx0, hx1⟩
  · subst hx
    go_wp2
    go_ret
    exact ⟨b0, -1, rfl, .inl rfl⟩
  · go_wp2_with fail
    refine (szTexts_at vk T.blocks x _ (hk.below b0) H3.out hx0 (by omega)).mono ?_
    rintro e w2 ⟨hw2, y, rfl, hy⟩
    obtain rfl := hw2.symm
    rcases hy with hy | ⟨hy0, hy1, hy2⟩
    · subst hy
      go_wp2
      go_ret
      exact ⟨b0, -1, rfl, .inl rfl⟩
    · have HY : Hid (∀ s ∈ T.blocks, s.size ≤ 1048576) := hy2
      clear hy2
      go_wp2
      go_ret
      exact ⟨b0, y, rfl, .inr ⟨hy0, by omega, by omega, by omega, HY.out⟩⟩
/-- How much rows of tables hold. -/
def tsz (ts : List TV) : Nat := (ts.map (fun t => 1 + t.T.bits.length + t.T.blocks.length)).sum
theorem tsz_take {ts : List TV} {k : Nat} (hk : k < ts.length) : tsz (ts.take (k + 1)) = tsz (ts.take k) + (1 + (nthT ts k).T.bits.length + (nthT ts k).T.blocks.length) := by
  unfold tsz
  rw [take_snoc hk, List.map_append, List.sum_append]
  simp
theorem tsz_mem {ts : List TV} {t : TV} (h : t ∈ ts) : 1 + t.T.bits.length + t.T.blocks.length ≤ tsz ts := by
  induction ts with
  | nil => cases h
  | cons a r ih =>
    have e : tsz (a :: r) = (1 + a.T.bits.length + a.T.blocks.length) + tsz r := by simp [tsz]
    rcases List.mem_cons.1 h with rfl | h
    · omega
    · have := ih h; omega
theorem tsz_len (ts : List TV) : ts.length ≤ tsz ts := by
  induction ts with
  | nil => exact Nat.le_refl _
  | cons a r ih =>
    have e : tsz (a :: r) = (1 + a.T.bits.length + a.T.blocks.length) + tsz r := by simp [tsz]
    rw [e, List.length_cons]; omega
def SzTs (w : World) (ts : List TV) (l : Int) (e : Ending) (w' : World) : Prop :=
  Below w.heap.size w w' ∧ ∃ z : Int, e = .returned (.int .i64 z) ∧ (z = -1 ∨ 0 ≤ z ∧ z + tsz ts ≤ l ∧ ∀ t ∈ ts, SmallT t.T)
set_option maxHeartbeats 1000000 in
set_option maxRecDepth 100000 in
theorem szTabs_at (v : Value) (ts : List TV) (l : Int) (w : World) (hr : RdTs w v ts) (hh : ∀ t ∈ ts, HeldT t.T) (hl0 : 0 ≤ l) (hl1 : l ≤ 1048576) :
    Calls Tryz.prog 24 #[v, .int .i64 l] w fun e w' => SzTs w ts l e w' := by
  obtain ⟨a, cap, hv, hla, hma, -⟩ := id hr
  obtain ⟨nn, hnn⟩ : ∃ nn, nn = ts.length := ⟨_, rfl⟩
  have HNN : Hid (nn = ts.length) := hnn
  rw [← hnn] at hv hla
  subst hv
  unfold maxLen at hma
  have HH : Hid (∀ t ∈ ts, HeldT t.T) := hh
  clear hnn hh
  by_cases hbig : l < (nn : Int)
  · have hb2 : l - (nn : Int) < 0 := by omega
    go_enter Tryz.func24, Tryz.ntmps24
    go_wp2
    go_ret
    exact ⟨Below.refl _ _, -1, rfl, .inl rfl⟩
  · have hb2 : ¬ l - (nn : Int) < 0 := by omega
    go_enter Tryz.func24, Tryz.ntmps24
    go_wp2
    go_loopw [1, 5] (fun lv i wr => ∃ (k : Nat) (x : Int), k ≤ nn ∧ i = .int .i64 k ∧ lv = .int .i64 x ∧ 0 ≤ x ∧ x ≤ 1048576 ∧ Hid (x + (tsz (ts.take k) : Int) + ((nn : Int) - (k : Int)) ≤ l) ∧ Hid (∀ j, j < k → SmallT (nthT ts j).T) ∧ Below w.heap.size w wr) (fun _ i _ => nn - (intOf i).toNat)
    case atStart => exact ⟨0, _, Nat.zero_le _, rfl, rfl, by omega, by omega, by unfold Hid; simp [tsz], (fun j h => by omega), Below.refl _ _⟩
    case round =>
      obtain ⟨k, x, hk, rfl, rfl, hx0, hx1, HX, HJ, hb⟩ := hrel
      by_cases hlt : k < nn
      · have hkl : k < ts.length := by rw [← HNN.out]; exact hlt
        obtain ⟨b, off, rfl, hc, hri, hrs⟩ := (hr.below hb).at k hkl
        have hkc : k < cap := by omega
        have hht := HH.out (nthT ts k) (by rw [nthT_eq hkl]; exact List.getElem_mem hkl)
        have HTK : Hid (tsz (ts.take (k + 1)) = tsz (ts.take k) + (1 + (nthT ts k).T.bits.length + (nthT ts k).T.blocks.length)) := tsz_take hkl
        have HJ2 : Hid (SmallT (nthT ts k).T → ∀ j, j < k + 1 → SmallT (nthT ts j).T) := fun h j hj => by
          by_cases e : j = k
          · rw [e]; exact h
          · exact HJ.out j (by omega)
        have HC : Hid (∀ W, RdI W (nthT ts k).vb (nthT ts k).T.bits → RdS W (nthT ts k).vk (nthT ts k).T.blocks → Calls Tryz.prog 52 #[.agg #[.string (nthT ts k).T.first, .string (nthT ts k).T.last, (nthT ts k).vb, (nthT ts k).vk], .int .i64 x] W fun e w' => SzTA W (nthT ts k).T x e w') := fun W h1 h2 => szTable_at _ _ _ x W h1 h2 hht hx0 hx1
        generalize nthT ts k = t at hc hri hrs HTK HJ2 HC
        obtain ⟨c0, c1, c2, c3⟩ := id hc
        clear hht hkl
        go_wp2_with fail
        refine (HC.out _ hri hrs).mono ?_
        rintro e w2 ⟨hb2, z, rfl, hz⟩
        have bz := hb.trans (hb2.mono hb.size)
        clear HC hc hri hrs c0 c1 c2 c3 hb hb2
        rcases hz with hz | ⟨hz0, hz1, hz2⟩
        · subst hz
          go_wp2
          go_ret
          exact ⟨bz, -1, rfl, .inl rfl⟩
        · have HX2 : Hid (z + (tsz (ts.take (k + 1)) : Int) + ((nn : Int) - ((k + 1 : Nat) : Int)) ≤ l) := by
            have h1 := HX.out
            have h2 := HTK.out
            unfold Hid
            rw [h2]
            omega
          have HJ3 : Hid (∀ j, j < k + 1 → SmallT (nthT ts j).T) := HJ2.out hz2
          have hz3 : z ≤ 1048576 := by omega
          clear hz2 hz1 HJ2 HTK HX
          go_wp2
          go_roundw
          case rel => exact ⟨k + 1, z, by omega, by go_num, rfl, hz0, hz3, HX2, HJ3, bz⟩
          case measure => simp [intOf]; omega
      · have hke : k = nn := by omega
        have HE : Hid (SzTs w ts l (.returned (.int .i64 x)) wr) := by
          refine ⟨hb, x, rfl, .inr ⟨hx0, ?_, fun t ht => ?_⟩⟩
          · have := HX.out
            rw [hke, HNN.out, List.take_length] at this
            omega
          · obtain ⟨j, hj, rfl⟩ := List.getElem_of_mem ht
            rw [← nthT_eq hj]
            exact HJ.out j (by rw [hke, HNN.out]; exact hj)
        clear hke
        go_wp2
        go_ret
        exact HE.out
/-- What a tree that comes in can be; what the measure leaves. -/
structure HeldTr (X : TrX) : Prop where
  mem : ∀ e ∈ X.mem, Held e
  young : ∀ t ∈ X.ys, HeldT t.T
  old : ∀ t ∈ X.os, HeldT t.T
structure SmallTr (X : TrX) : Prop where
  sum : X.mem.length + tsz X.ys + tsz X.os + X.snaps.length ≤ 1048576
  mem : ∀ x ∈ X.mem, x.key.size ≤ 1048576 ∧ x.val.size ≤ 1048576
  young : ∀ t ∈ X.ys, SmallT t.T
  old : ∀ t ∈ X.os, SmallT t.T
theorem SmallTr.fit {X : TrX} (h : SmallTr X) (hh : HeldTr X) : FitTr X :=
  ⟨fun e he => ⟨by have := (h.mem e he).1; omega, by have := (h.mem e he).2; omega, (hh.mem e he).2.2.1, (hh.mem e he).2.2.2⟩, fun t ht s hs => by have := (h.young t ht).2.2 s hs; omega, fun t ht s hs => by have := (h.old t ht).2.2 s hs; omega⟩
def SzTr (w : World) (X : TrX) (e : Ending) (w' : World) : Prop := Below w.heap.size w w' ∧ ∃ z : Int, e = .returned (.int .i64 z) ∧ (z < 0 ∨ 0 ≤ z ∧ SmallTr X)
set_option maxHeartbeats 2000000 in
set_option maxRecDepth 100000 in
theorem szTree_any (X : TrX) (w : World) (hx : RdTr w X) (hh : HeldTr X) :
    Calls Tryz.prog 7 #[.agg #[X.vm, X.vy, X.vo, .int .i64 X.seq, X.vs], .int .i64 1048576] w fun e w' => SzTr w X e w' := by
  have ht0 := treAt_new w X 26
  have b0 := below1 w (.cells #[X.vm, X.vy, X.vo, .int .i64 X.seq, X.vs] 26)
  obtain ⟨hhm, hhy, hho⟩ := hh
  have HM : Hid (∀ l W, RdE W X.vm X.mem → 0 ≤ l → l ≤ 1048576 → Calls Tryz.prog 23 #[X.vm, .int .i64 l] W fun e w' => SzAt W X.mem l e w') := fun l W h h0 h1 => szEnts_at _ _ l W h (fun x hx => ⟨(hhm x hx).1, (hhm x hx).2.1⟩) h0 h1
  have HY : Hid (∀ l W, RdTs W X.vy X.ys → 0 ≤ l → l ≤ 1048576 → Calls Tryz.prog 24 #[X.vy, .int .i64 l] W fun e w' => SzTs W X.ys l e w') := fun l W h h0 h1 => szTabs_at _ _ l W h hhy h0 h1
  have HO : Hid (∀ l W, RdTs W X.vo X.os → 0 ≤ l → l ≤ 1048576 → Calls Tryz.prog 24 #[X.vo, .int .i64 l] W fun e w' => SzTs W X.os l e w') := fun l W h h0 h1 => szTabs_at _ _ l W h hho h0 h1
  have HS : Hid (∀ l W, RdI W X.vs X.snaps → 0 ≤ l → l ≤ 1048576 → Calls Tryz.prog 25 #[X.vs, .int .i64 l] W fun e w' => w' = W ∧ ∃ x : Int, e = .returned (.int .i64 x) ∧ (x = -1 ∨ 0 ≤ x ∧ x + X.snaps.length ≤ l)) := fun l W h h0 h1 => szInts_at _ _ l W h h0 h1
  obtain ⟨q0, q1, q2, q3, q4⟩ := id ht0
  clear hhm hhy hho
  go_enter Tryz.func7, Tryz.ntmps7
  go_wp2_with fail
  refine (HM.out _ _ (hx.mem.below b0) (by omega) (by omega)).mono ?_
  rintro e w1 ⟨hb1, z1, rfl, hz1⟩
  have t1 := ht0.below hb1
  have b1 := b0.trans (hb1.mono b0.size)
  clear ht0 b0 hb1 q0 q1 q2 q3 q4 HM
  rcases hz1 with hz1 | ⟨hz10, hz11, hz12⟩
  · subst hz1
    go_wp2
    go_ret
    exact ⟨b1, -1, rfl, .inl (by omega)⟩
  have HZM : Hid (∀ x ∈ X.mem, x.key.size ≤ 1048576 ∧ x.val.size ≤ 1048576) := hz12
  obtain ⟨q0, q1, q2, q3, q4⟩ := id t1
  clear hz12
  go_wp2_with fail
  refine (HY.out _ _ (hx.young.below b1) hz10 (by omega)).mono ?_
  rintro e w2 ⟨hb2, z2, rfl, hz2⟩
  have t2 := t1.below hb2
  have b2 := b1.trans (hb2.mono b1.size)
  clear t1 b1 hb2 q0 q1 q2 q3 q4 HY
  rcases hz2 with hz2 | ⟨hz20, hz21, hz22⟩
  · subst hz2
    go_wp2
    go_ret
    exact ⟨b2, -1, rfl, .inl (by omega)⟩
  have HZY : Hid (∀ t ∈ X.ys, SmallT t.T) := hz22
  obtain ⟨q0, q1, q2, q3, q4⟩ := id t2
  clear hz22
  go_wp2_with fail
  refine (HO.out _ _ (hx.old.below b2) hz20 (by omega)).mono ?_
  rintro e w3 ⟨hb3, z3, rfl, hz3⟩
  have t3 := t2.below hb3
  have b3 := b2.trans (hb3.mono b2.size)
  clear t2 b2 hb3 q0 q1 q2 q3 q4 HO
  rcases hz3 with hz3 | ⟨hz30, hz31, hz32⟩
  · subst hz3
    go_wp2
    go_ret
    exact ⟨b3, -1, rfl, .inl (by omega)⟩
  have HZO : Hid (∀ t ∈ X.os, SmallT t.T) := hz32
  obtain ⟨q0, q1, q2, q3, q4⟩ := id t3
  clear hz32
  go_wp2_with fail
  refine (HS.out _ _ (hx.snaps.below b3) hz30 (by omega)).mono ?_
  rintro e w4 ⟨hw4, z4, rfl, hz4⟩
  obtain rfl := hw4.symm
  clear q0 q1 q2 q3 q4 HS
  rcases hz4 with hz4 | ⟨hz40, hz41⟩
  · subst hz4
    go_wp2
    go_ret
    exact ⟨b3, -1, rfl, .inl (by omega)⟩
  · have HSUM : Hid (X.mem.length + tsz X.ys + tsz X.os + X.snaps.length ≤ 1048576) := by unfold Hid; omega
    clear hz11 hz21 hz31 hz41
    go_wp2
    go_ret
    exact ⟨b3, z4, rfl, .inr ⟨hz40, HSUM.out, HZM.out, HZY.out, HZO.out⟩⟩
end Go.Proofs.YtjnhhdnfncfedaaGreat
