/- Entries that came in as an argument of a law: what is read of them. The contracts of the laws' own helpers over rows of tables and trees: measured, copied, alike. The contracts of the laws' own helpers over rows of tables and trees: copied, alike. -/
import Derived.OpenShut
import Derived.Deep.Slices
import Derived.ChangeArms
import Derived.Test.YtbefmbjlogkmbaaGreatTreSpec6
import Derived.Test.YtbefmbjlogkmbaaGreatG29
namespace Go.Proofs.YtbefmbjlogkmbaaGreat
set_option maxHeartbeats 16000000
set_option maxRecDepth 100000
open Go.RowKit Go.ChangeShapes Go.WideShapes
def Held (e : Ent) : Prop := e.key.size ≤ maxLen ∧ e.val.size ≤ maxLen ∧ -9223372036854775808 ≤ e.seq ∧ e.seq ≤ 9223372036854775807
theorem cells9 : Tryz.prog.cellsOf 9 = 1 := by kernel_rfl
theorem cells2 : Tryz.prog.cellsOf 2 = 1 := by kernel_rfl
theorem cells4 : Tryz.prog.cellsOf 4 = 1 := by kernel_rfl
theorem cells84 : Tryz.prog.cellsOf 84 = 4 := by kernel_rfl
theorem open_ent {H : Type} {enc : TypeId × Value → H} {w : World} {base : Nat} {spare : Nat → Bool} {held : Bool} {fuel : Nat} {cs : List Value} {x : DataW H × List MemPlace} (h : DataW.trod enc Tryz.prog w base spare held fuel 84 cs = some x) :
    ∃ e : Ent, cs = EC e ∧ Held e := by
  obtain ⟨xs, n, _, _, hl, hxl, hf⟩ := DataW.trod_struct Tryz.underlying84 h
  rw [cells84] at hl
  match xs, hxl, cs, hl with
  | [y0, y1, y2, y3], _, [v0, v1, v2, v3], _ =>
    have g0 := hf 0 _ rfl
    have g1 := hf 1 _ rfl
    have g2 := hf 2 _ rfl
    have g3 := hf 3 _ rfl
    simp [cells9, cells2, cells4] at g0 g1 g2 g3
    obtain ⟨s0, h0, _, z0⟩ := DataW.trod_string Tryz.underlying9 g0
    obtain ⟨s1, h1, _, z1⟩ := DataW.trod_string Tryz.underlying9 g1
    obtain ⟨n2, h2, _, z2⟩ := DataW.trod_int Tryz.underlying2 g2
    obtain ⟨b3, h3, _⟩ := DataW.trod_bool Tryz.underlying4 g3
    simp only [List.cons.injEq, and_true] at h0 h1 h2 h3
    subst h0 h1 h2 h3
    exact ⟨⟨s0, s1, n2, b3⟩, rfl, z0, z1, bounds_i64 z2⟩
theorem open_ents {H : Type} {enc : TypeId × Value → H} {w : World} {held : Bool} {v : Value} {d : DataW H} {ps : List MemPlace} (h : DataW.Trod enc Tryz.prog w 0 (fun _ => true) held 22 v d ps) (hv : ∃ a len cap, v = .slice a len cap) :
    ∃ es, RdE w v es ∧ ∀ e ∈ es, Held e := by
  obtain ⟨fuel, hf⟩ := h
  obtain ⟨a0, len0, cap0, rfl⟩ := hv
  rcases Deep.open_slice Tryz.underlying22 hf with ⟨hcs, _⟩ | ⟨a, len, cap, m, n, D, Pl, hcs, _, hl, hm, hmm, _, hx⟩
  · simp [Value.cells] at hcs
    obtain ⟨rfl, rfl, rfl⟩ := hcs
    exact ⟨[], rdE_nil w, fun e he => by cases he⟩
  · simp [Value.cells] at hcs
    obtain ⟨rfl, rfl, rfl⟩ := hcs
    simp only [if_true] at hmm
    subst hmm
    have each : ∀ i, i < m → ∃ e : Ent, w.cells? 0 (a.add (i * 4)) 4 = some (EC e) ∧ Held e := by
      intro i hi
      obtain ⟨cs', h1, h2⟩ := hx i hi
      rw [cells84] at h1
      obtain ⟨e, rfl, he⟩ := open_ent h2
      exact ⟨e, h1, he⟩
    obtain ⟨q, hq⟩ := Deep.choose_lt each
    obtain ⟨b, off, spot⟩ := a
    refine ⟨(List.range len0).map q, ⟨some ⟨b, off, spot⟩, m, by simp, by simpa using hl, hm, (fun h => by cases h), ?_⟩, fun e he => ?_⟩
    · by_cases h0 : len0 = 0
      · left; simp [h0]
      · right
        obtain ⟨_, _, hc0⟩ := World.cells?_some (hq 0 (by omega)).1
        have hc00 := hc0 0 (by omega)
        rw [Deep.add_add] at hc00
        have hc01 : w.cell? ((⟨b, off, spot⟩ : Addr).add 0) = some (.string (q 0).key) := hc00
        have hspot : spot = none := by
          have := World.cell?_spot hc01
          cases spot with
          | none => rfl
          | some sp => simp [Addr.add] at this
        subst hspot
        refine ⟨b, off, rfl, fun i hi => ?_⟩
        have hi' : i < len0 := by simpa using hi
        have hn : nth ((List.range len0).map q) i = q i := by rw [nth_eq hi]; simp
        rw [hn]
        obtain ⟨_, _, hc⟩ := World.cells?_some (hq i (by omega)).1
        have c0 := hc 0 (by omega)
        have c1 := hc 1 (by omega)
        have c2 := hc 2 (by omega)
        have c3 := hc 3 (by omega)
        rw [Deep.add_add, Addr.add_lit] at c0 c1 c2 c3
        exact ⟨by simpa [EC] using c0, by simpa [EC, Nat.add_assoc] using c1, by simpa [EC, Nat.add_assoc] using c2, by simpa [EC, Nat.add_assoc] using c3⟩
    · simp only [List.mem_map, List.mem_range] at he
      obtain ⟨i, hi, rfl⟩ := he
      exact (hq i (by omega)).2
open Go.RowKit
theorem szInts_at (v : Value) (ns : List Int) (l : Int) (w : World) (hr : RdI w v ns) (h0 : 0 ≤ l) (h1 : l ≤ 1048576) :
    Calls Tryz.prog 23 #[v, .int .i64 l] w fun e w' => w' = w ∧ ∃ x : Int, e = .returned (.int .i64 x) ∧ (x = -1 ∨ 0 ≤ x ∧ x + ns.length ≤ l) := by
  obtain ⟨a, cap, hv, hl, hm, _⟩ := id hr
  subst hv
  unfold maxLen at hm
  by_cases hb : l - (ns.length : Int) < 0
  · go_enter Tryz.func23, Tryz.ntmps23
    go_wp2
    go_ret
    exact ⟨rfl, -1, rfl, .inl rfl⟩
  · go_enter Tryz.func23, Tryz.ntmps23
    go_wp2
    go_ret
    exact ⟨rfl, _, rfl, .inr ⟨by omega, by omega⟩⟩
def HeldT (T : Tbl) : Prop := T.first.size ≤ maxLen ∧ T.last.size ≤ maxLen ∧ ∀ s ∈ T.blocks, s.size ≤ maxLen
def SmallT (T : Tbl) : Prop := T.first.size ≤ 1048576 ∧ T.last.size ≤ 1048576 ∧ ∀ s ∈ T.blocks, s.size ≤ 1048576
def SzTA (w : World) (T : Tbl) (l : Int) (e : Ending) (w' : World) : Prop :=
  Below w.heap.size w w' ∧ ∃ z : Int, e = .returned (.int .i64 z) ∧ (z = -1 ∨ 0 ≤ z ∧ z + T.bits.length + T.blocks.length ≤ l ∧ SmallT T)
theorem szTable_at (T : Tbl) (vb vk : Value) (l : Int) (w : World) (hi : RdI w vb T.bits) (hk : RdS w vk T.blocks) (hh : HeldT T) (hl0 : 0 ≤ l) (hl1 : l ≤ 1048576) :
    Calls Tryz.prog 55 #[.agg #[.string T.first, .string T.last, vb, vk], .int .i64 l] w fun e w' => SzTA w T l e w' := by
  have t0 := tblAt_new w T vb vk 86
  have b0 := below1 w (.cells #[.string T.first, .string T.last, vb, vk] 86)
  obtain ⟨h1, h2, h3⟩ := hh
  have H3 : Hid (∀ s ∈ T.blocks, s.size ≤ maxLen) := h3
  unfold maxLen at h1 h2
  clear h3
  obtain ⟨d0, d1, d2, d3⟩ := id t0
  by_cases q1 : l - (T.first.size : Int) < 0
  · go_enter Tryz.func55, Tryz.ntmps55
    go_wp2
    go_ret
    exact ⟨b0, -1, rfl, .inl rfl⟩
  by_cases q2 : l - (T.first.size : Int) - (T.last.size : Int) < 0
  · go_enter Tryz.func55, Tryz.ntmps55
    go_wp2
    go_ret
    exact ⟨b0, -1, rfl, .inl rfl⟩
  go_enter Tryz.func55, Tryz.ntmps55
  go_wp2_with fail
  refine (szInts_at vb T.bits _ _ (hi.below b0) (by omega) (by omega)).mono ?_
  rintro e w1 ⟨hw1, x, rfl, hx⟩
  obtain rfl := hw1.symm
  rcases hx with hx | ⟨hx0, hx1⟩
  · subst hx
    go_wp2
    go_ret
    exact ⟨b0, -1, rfl, .inl rfl⟩
  · go_wp2_with fail
    refine (szTexts_at vk T.blocks x _ (hk.below b0) H3.out hx0 (by omega)).mono ?_
    rintro e w2 ⟨hw2, y, rfl, hy⟩
    obtain rfl := hw2.symm
    rcases hy with hy | ⟨hy0, hy1, hy2⟩
    · subst hy
      go_wp2
      go_ret
      exact ⟨b0, -1, rfl, .inl rfl⟩
    · have HY : Hid (∀ s ∈ T.blocks, s.size ≤ 1048576) := hy2
      clear hy2
      go_wp2
      go_ret
      exact ⟨b0, y, rfl, .inr ⟨hy0, by omega, by omega, by omega, HY.out⟩⟩
def tsz (ts : List TV) : Nat := (ts.map (fun t => 1 + t.T.bits.length + t.T.blocks.length)).sum
theorem tsz_take {ts : List TV} {k : Nat} (hk : k < ts.length) : tsz (ts.take (k + 1)) = tsz (ts.take k) + (1 + (nthT ts k).T.bits.length + (nthT ts k).T.blocks.length) := by
  unfold tsz
  rw [take_snoc hk, List.map_append, List.sum_append]
  simp
theorem tsz_mem {ts : List TV} {t : TV} (h : t ∈ ts) : 1 + t.T.bits.length + t.T.blocks.length ≤ tsz ts := by
  induction ts with
  | nil => cases h
  | cons a r ih =>
    have e : tsz (a :: r) = (1 + a.T.bits.length + a.T.blocks.length) + tsz r := by simp [tsz]
    rcases List.mem_cons.1 h with rfl | h
    · omega
    · have := ih h; omega
theorem tsz_len (ts : List TV) : ts.length ≤ tsz ts := by
  induction ts with
  | nil => exact Nat.le_refl _
  | cons a r ih =>
    have e : tsz (a :: r) = (1 + a.T.bits.length + a.T.blocks.length) + tsz r := by simp [tsz]
    rw [e, List.length_cons]; omega
def SzTs (w : World) (ts : List TV) (l : Int) (e : Ending) (w' : World) : Prop :=
  Below w.heap.size w w' ∧ ∃ z : Int, e = .returned (.int .i64 z) ∧ (z = -1 ∨ 0 ≤ z ∧ z + tsz ts ≤ l ∧ ∀ t ∈ ts, SmallT t.T)
theorem szTabs_at (v : Value) (ts : List TV) (l : Int) (w : World) (hr : RdTs w v ts) (hh : ∀ t ∈ ts, HeldT t.T) (hl0 : 0 ≤ l) (hl1 : l ≤ 1048576) :
    Calls Tryz.prog 22 #[v, .int .i64 l] w fun e w' => SzTs w ts l e w' := by
  obtain ⟨a, cap, hv, hla, hma, -⟩ := id hr
  obtain ⟨nn, hnn⟩ : ∃ nn, nn = ts.length := ⟨_, rfl⟩
  have HNN : Hid (nn = ts.length) := hnn
  rw [← hnn] at hv hla
  subst hv
  unfold maxLen at hma
  have HH : Hid (∀ t ∈ ts, HeldT t.T) := hh
  clear hnn hh
  by_cases hbig : l < (nn : Int)
  · have hb2 : l - (nn : Int) < 0 := by omega
    go_enter Tryz.func22, Tryz.ntmps22
    go_wp2
    go_ret
    exact ⟨Below.refl _ _, -1, rfl, .inl rfl⟩
  · have hb2 : ¬ l - (nn : Int) < 0 := by omega
    go_enter Tryz.func22, Tryz.ntmps22
    go_wp2
    go_loopw [1, 5] (fun lv i wr => ∃ (k : Nat) (x : Int), k ≤ nn ∧ i = .int .i64 k ∧ lv = .int .i64 x ∧ 0 ≤ x ∧ x ≤ 1048576 ∧ Hid (x + (tsz (ts.take k) : Int) + ((nn : Int) - (k : Int)) ≤ l) ∧ Hid (∀ j, j < k → SmallT (nthT ts j).T) ∧ Below w.heap.size w wr) (fun _ i _ => nn - (intOf i).toNat)
    case atStart => exact ⟨0, _, Nat.zero_le _, rfl, rfl, by omega, by omega, by unfold Hid; simp [tsz], (fun j h => by omega), Below.refl _ _⟩
    case round =>
      obtain ⟨k, x, hk, rfl, rfl, hx0, hx1, HX, HJ, hb⟩ := hrel
      by_cases hlt : k < nn
      · have hkl : k < ts.length := by rw [← HNN.out]; exact hlt
        obtain ⟨b, off, rfl, hc, hri, hrs⟩ := (hr.below hb).at k hkl
        have hkc : k < cap := by omega
        have hht := HH.out (nthT ts k) (by rw [nthT_eq hkl]; exact List.getElem_mem hkl)
        have HTK : Hid (tsz (ts.take (k + 1)) = tsz (ts.take k) + (1 + (nthT ts k).T.bits.length + (nthT ts k).T.blocks.length)) := tsz_take hkl
        have HJ2 : Hid (SmallT (nthT ts k).T → ∀ j, j < k + 1 → SmallT (nthT ts j).T) := fun h j hj => by
          by_cases e : j = k
          · rw [e]; exact h
          · exact HJ.out j (by omega)
        have HC : Hid (∀ W, RdI W (nthT ts k).vb (nthT ts k).T.bits → RdS W (nthT ts k).vk (nthT ts k).T.blocks → Calls Tryz.prog 55 #[.agg #[.string (nthT ts k).T.first, .string (nthT ts k).T.last, (nthT ts k).vb, (nthT ts k).vk], .int .i64 x] W fun e w' => SzTA W (nthT ts k).T x e w') := fun W h1 h2 => szTable_at _ _ _ x W h1 h2 hht hx0 hx1
        generalize nthT ts k = t at hc hri hrs HTK HJ2 HC
        obtain ⟨c0, c1, c2, c3⟩ := id hc
        clear hht hkl
        go_wp2_with fail
        refine (HC.out _ hri hrs).mono ?_
        rintro e w2 ⟨hb2, z, rfl, hz⟩
        have bz := hb.trans (hb2.mono hb.size)
        clear HC hc hri hrs c0 c1 c2 c3 hb hb2
        rcases hz with hz | ⟨hz0, hz1, hz2⟩
        · subst hz
          go_wp2
          go_ret
          exact ⟨bz, -1, rfl, .inl rfl⟩
        · have HX2 : Hid (z + (tsz (ts.take (k + 1)) : Int) + ((nn : Int) - ((k + 1 : Nat) : Int)) ≤ l) := by
            have h1 := HX.out
            have h2 := HTK.out
            unfold Hid
            rw [h2]
            omega
          have HJ3 : Hid (∀ j, j < k + 1 → SmallT (nthT ts j).T) := HJ2.out hz2
          have hz3 : z ≤ 1048576 := by omega
          clear hz2 hz1 HJ2 HTK HX
          go_wp2
          go_roundw
          case rel => exact ⟨k + 1, z, by omega, by go_num, rfl, hz0, hz3, HX2, HJ3, bz⟩
          case measure => simp [intOf]; omega
      · have hke : k = nn := by omega
        have HE : Hid (SzTs w ts l (.returned (.int .i64 x)) wr) := by
          refine ⟨hb, x, rfl, .inr ⟨hx0, ?_, fun t ht => ?_⟩⟩
          · have := HX.out
            rw [hke, HNN.out, List.take_length] at this
            omega
          · obtain ⟨j, hj, rfl⟩ := List.getElem_of_mem ht
            rw [← nthT_eq hj]
            exact HJ.out j (by rw [hke, HNN.out]; exact hj)
        clear hke
        go_wp2
        go_ret
        exact HE.out
structure HeldTr (X : TrX) : Prop where
  mem : ∀ e ∈ X.mem, Held e
  young : ∀ t ∈ X.ys, HeldT t.T
  old : ∀ t ∈ X.os, HeldT t.T
structure SmallTr (X : TrX) : Prop where
  sum : X.mem.length + tsz X.ys + tsz X.os + X.snaps.length ≤ 1048576
  mem : ∀ x ∈ X.mem, x.key.size ≤ 1048576 ∧ x.val.size ≤ 1048576
  young : ∀ t ∈ X.ys, SmallT t.T
  old : ∀ t ∈ X.os, SmallT t.T
theorem SmallTr.fit {X : TrX} (h : SmallTr X) (hh : HeldTr X) : FitTr X :=
  ⟨fun e he => ⟨by have := (h.mem e he).1; omega, by have := (h.mem e he).2; omega, (hh.mem e he).2.2.1, (hh.mem e he).2.2.2⟩, fun t ht s hs => by have := (h.young t ht).2.2 s hs; omega, fun t ht s hs => by have := (h.old t ht).2.2 s hs; omega⟩
def SzTr (w : World) (X : TrX) (e : Ending) (w' : World) : Prop := Below w.heap.size w w' ∧ ∃ z : Int, e = .returned (.int .i64 z) ∧ (z < 0 ∨ 0 ≤ z ∧ SmallTr X)
theorem szTree_any (X : TrX) (w : World) (hx : RdTr w X) (hh : HeldTr X) :
    Calls Tryz.prog 6 #[.agg #[X.vm, X.vy, X.vo, .int .i64 X.seq, X.vs], .int .i64 1048576] w fun e w' => SzTr w X e w' := by
  have ht0 := treAt_new w X 26
  have b0 := below1 w (.cells #[X.vm, X.vy, X.vo, .int .i64 X.seq, X.vs] 26)
  obtain ⟨hhm, hhy, hho⟩ := hh
  have HM : Hid (∀ l W, RdE W X.vm X.mem → 0 ≤ l → l ≤ 1048576 → Calls Tryz.prog 21 #[X.vm, .int .i64 l] W fun e w' => SzAt W X.mem l e w') := fun l W h h0 h1 => szEnts_at _ _ l W h (fun x hx => ⟨(hhm x hx).1, (hhm x hx).2.1⟩) h0 h1
  have HY : Hid (∀ l W, RdTs W X.vy X.ys → 0 ≤ l → l ≤ 1048576 → Calls Tryz.prog 22 #[X.vy, .int .i64 l] W fun e w' => SzTs W X.ys l e w') := fun l W h h0 h1 => szTabs_at _ _ l W h hhy h0 h1
  have HO : Hid (∀ l W, RdTs W X.vo X.os → 0 ≤ l → l ≤ 1048576 → Calls Tryz.prog 22 #[X.vo, .int .i64 l] W fun e w' => SzTs W X.os l e w') := fun l W h h0 h1 => szTabs_at _ _ l W h hho h0 h1
  have HS : Hid (∀ l W, RdI W X.vs X.snaps → 0 ≤ l → l ≤ 1048576 → Calls Tryz.prog 23 #[X.vs, .int .i64 l] W fun e w' => w' = W ∧ ∃ x : Int, e = .returned (.int .i64 x) ∧ (x = -1 ∨ 0 ≤ x ∧ x + X.snaps.length ≤ l)) := fun l W h h0 h1 => szInts_at _ _ l W h h0 h1
  obtain ⟨q0, q1, q2, q3, q4⟩ := id ht0
  clear hhm hhy hho
  go_enter Tryz.func6, Tryz.ntmps6
  go_wp2_with fail
  refine (HM.out _ _ (hx.mem.below b0) (by omega) (by omega)).mono ?_
  rintro e w1 ⟨hb1, z1, rfl, hz1⟩
  have t1 := ht0.below hb1
  have b1 := b0.trans (hb1.mono b0.size)
  clear ht0 b0 hb1 q0 q1 q2 q3 q4 HM
  rcases hz1 with hz1 | ⟨hz10, hz11, hz12⟩
  · subst hz1
    go_wp2
    go_ret
    exact ⟨b1, -1, rfl, .inl (by omega)⟩
  have HZM : Hid (∀ x ∈ X.mem, x.key.size ≤ 1048576 ∧ x.val.size ≤ 1048576) := hz12
  obtain ⟨q0, q1, q2, q3, q4⟩ := id t1
  clear hz12
  go_wp2_with fail
  refine (HY.out _ _ (hx.young.below b1) hz10 (by omega)).mono ?_
  rintro e w2 ⟨hb2, z2, rfl, hz2⟩
  have t2 := t1.below hb2
  have b2 := b1.trans (hb2.mono b1.size)
  clear t1 b1 hb2 q0 q1 q2 q3 q4 HY
  rcases hz2 with hz2 | ⟨hz20, hz21, hz22⟩
  · subst hz2
    go_wp2
    go_ret
    exact ⟨b2, -1, rfl, .inl (by omega)⟩
  have HZY : Hid (∀ t ∈ X.ys, SmallT t.T) := hz22
  obtain ⟨q0, q1, q2, q3, q4⟩ := id t2
  clear hz22
  go_wp2_with fail
  refine (HO.out _ _ (hx.old.below b2) hz20 (by omega)).mono ?_
  rintro e w3 ⟨hb3, z3, rfl, hz3⟩
  have t3 := t2.below hb3
  have b3 := b2.trans (hb3.mono b2.size)
  clear t2 b2 hb3 q0 q1 q2 q3 q4 HO
  rcases hz3 with hz3 | ⟨hz30, hz31, hz32⟩
  · subst hz3
    go_wp2
    go_ret
    exact ⟨b3, -1, rfl, .inl (by omega)⟩
  have HZO : Hid (∀ t ∈ X.os, SmallT t.T) := hz32
  obtain ⟨q0, q1, q2, q3, q4⟩ := id t3
  clear hz32
  go_wp2_with fail
  refine (HS.out _ _ (hx.snaps.below b3) hz30 (by omega)).mono ?_
  rintro e w4 ⟨hw4, z4, rfl, hz4⟩
  obtain rfl := hw4.symm
  clear q0 q1 q2 q3 q4 HS
  rcases hz4 with hz4 | ⟨hz40, hz41⟩
  · subst hz4
    go_wp2
    go_ret
    exact ⟨b3, -1, rfl, .inl (by omega)⟩
  · have HSUM : Hid (X.mem.length + tsz X.ys + tsz X.os + X.snaps.length ≤ 1048576) := by unfold Hid; omega
    clear hz11 hz21 hz31 hz41
    go_wp2
    go_ret
    exact ⟨b3, z4, rfl, .inr ⟨hz40, HSUM.out, HZM.out, HZY.out, HZO.out⟩⟩
open Go.RowKit
theorem nthT_zero (a : TV) (r : List TV) : nthT (a :: r) 0 = a := rfl
theorem nthT_succ (a : TV) (r : List TV) (i : Nat) : nthT (a :: r) (i + 1) = nthT r i := by simp [nthT, List.getD]
theorem made_TVs (n : Nat) : (madeCells #[.string ⟨#[]⟩, .string ⟨#[]⟩, .slice none 0 0, .slice none 0 0] (n * 4)).toList = TVs (List.replicate n zeroTV) := by
  apply List.ext_getElem?
  intro j
  by_cases hj : j < n * 4
  · have h1 : j / 4 < n := by omega
    have h2 := TVs_get (List.replicate n zeroTV) (j / 4) (by rw [List.length_replicate]; exact h1) (j % 4) (by omega)
    rw [show j / 4 * 4 + j % 4 = j by omega] at h2
    rw [h2, nthT_eq (by rw [List.length_replicate]; exact h1), List.getElem_replicate]
    have h3 : j % 4 = 0 ∨ j % 4 = 1 ∨ j % 4 = 2 ∨ j % 4 = 3 := by omega
    rcases h3 with h | h | h | h <;> simp [madeCells, hj, h, TC, zeroTV, zeroT]
  · rw [List.getElem?_eq_none (by rw [Array.length_toList, size_madeCells]; omega), List.getElem?_eq_none (by rw [TVs_length, List.length_replicate]; omega)]
theorem TVs_setAt : ∀ (es : List TV) (k : Nat), k < es.length → ∀ (j : Nat), j < 4 → ∀ (u : Value) (e' : TV), (TC (nthT es k)).set j u = TC e' → (TVs es).set (k * 4 + j) u = TVs (es.set k e')
  | [], k, h, _, _, _, _, _ => by simp at h
  | a :: r, 0, _, j, hj, u, e', h => by
    rw [nthT_zero] at h
    rw [TVs_cons, Nat.zero_mul, Nat.zero_add, List.set_append_left _ _ (by simp [TC]; exact hj), h, List.set_cons_zero, TVs_cons]
  | a :: r, k + 1, hk, j, hj, u, e', h => by
    rw [nthT_succ] at h
    rw [TVs_cons, List.set_append_right _ _ (by simp [TC]; omega), List.set_cons_succ, TVs_cons, ← TVs_setAt r k (by simpa using hk) j hj u e' h]
    congr 2
    simp [TC]; omega
theorem ownT_store {w : World} {base g cap n : Nat} {es : List TV} (ho : w.ownsRow base 72 4 (.slice (some ⟨g, 0, none⟩) n cap) n (TVs es)) {k j : Nat} (hk : k < es.length) (hj : j < 4) {u : Value} {e' : TV} (h : (TC (nthT es k)).set j u = TC e') :
    (w.setCell ⟨g, k * 4 + j, none⟩ u).ownsRow base 72 4 (.slice (some ⟨g, 0, none⟩) n cap) n (TVs (es.set k e')) := by
  have := (ho.stored (k * 4 + j) u).1
  rwa [TVs_setAt es k hk j hj u e' h] at this
theorem nthT_set_same {es : List TV} {k : Nat} (hk : k < es.length) (e : TV) : nthT (es.set k e) k = e := by
  rw [nthT_eq (by rw [List.length_set]; exact hk), List.getElem_set_self]
theorem ownT_store4 {w : World} {base g cap n : Nat} {es : List TV} (ho : w.ownsRow base 72 4 (.slice (some ⟨g, 0, none⟩) n cap) n (TVs es)) {k : Nat} (hk : k < es.length) (x : TV) :
    ((((w.setCell ⟨g, k * 4, none⟩ (.string x.T.first)).setCell ⟨g, k * 4 + 1, none⟩ (.string x.T.last)).setCell ⟨g, k * 4 + 2, none⟩ x.vb).setCell ⟨g, k * 4 + 3, none⟩ x.vk).ownsRow base 72 4 (.slice (some ⟨g, 0, none⟩) n cap) n (TVs (es.set k x)) := by
  have h0 := ownT_store ho hk (j := 0) (by omega) (u := .string x.T.first) (e' := ⟨{ (nthT es k).T with first := x.T.first }, (nthT es k).vb, (nthT es k).vk⟩) rfl
  have h1 := ownT_store h0 (k := k) (j := 1) (by rw [List.length_set]; exact hk) (by omega) (u := .string x.T.last) (e' := ⟨{ (nthT es k).T with first := x.T.first, last := x.T.last }, (nthT es k).vb, (nthT es k).vk⟩) (by rw [nthT_set_same hk]; rfl)
  rw [List.set_set] at h1
  have h2 := ownT_store h1 (k := k) (j := 2) (by rw [List.length_set]; exact hk) (by omega) (u := x.vb) (e' := ⟨{ (nthT es k).T with first := x.T.first, last := x.T.last }, x.vb, (nthT es k).vk⟩) (by rw [nthT_set_same hk]; rfl)
  rw [List.set_set] at h2
  have h3 := ownT_store h2 (k := k) (j := 3) (by rw [List.length_set]; exact hk) (by omega) (u := x.vk) (e' := x) (by rw [nthT_set_same hk]; rfl)
  rw [List.set_set] at h3
  exact h3
theorem ownT_cells {w : World} {base g cap n : Nat} {ts : List TV} (h : w.ownsRow base 72 4 (.slice (some ⟨g, 0, none⟩) n cap) n (TVs ts)) (hn : n = ts.length) (i : Nat) (hi : i < n) : TabAt w g (i * 4) (nthT ts i) := by
  have hg := fun j (hj : j < 4) => (h.cellAt (i * 4 + j) (by omega)).trans (TVs_get ts i (by omega) j hj)
  exact ⟨hg 0 (by omega), hg 1 (by omega), hg 2 (by omega), hg 3 (by omega)⟩
def tblks (ts : List TV) : List Nat := ts.flatMap (fun t => oneB t.vb ++ oneB t.vk)
structure OwnTs (w : World) (lo : Nat) (v : Value) (ts : List TV) : Prop where
  row : OwnT w lo v ts
  ins : InT w lo ts
  nod : (oneB v ++ tblks ts).Nodup
theorem OwnTs.below {w w' : World} {lo : Nat} {v : Value} {ts : List TV} (h : OwnTs w lo v ts) (hb : Below w.heap.size w w') : OwnTs w' lo v ts := ⟨h.row.below hb, h.ins.below hb, h.nod⟩
theorem OwnTs.mono {w : World} {lo lo' : Nat} {v : Value} {ts : List TV} (h : OwnTs w lo v ts) (hb : lo' ≤ lo) : OwnTs w lo' v ts := ⟨h.row.mono hb, h.ins.mono hb, h.nod⟩
theorem OwnTs.rd {w : World} {lo : Nat} {v : Value} {ts : List TV} (h : OwnTs w lo v ts) : RdTs w v ts := h.row.rd h.ins
theorem mem_tblks {ts : List TV} {k : Nat} (h : k ∈ tblks ts) : ∃ t ∈ ts, t.vb.ownBlock = some k ∨ t.vk.ownBlock = some k := by
  unfold tblks at h
  obtain ⟨t, ht, hk⟩ := List.mem_flatMap.1 h
  rcases List.mem_append.1 hk with hk | hk
  · exact ⟨t, ht, .inl (mem_oneB.1 hk)⟩
  · exact ⟨t, ht, .inr (mem_oneB.1 hk)⟩
theorem tblks_bound {w : World} {lo : Nat} {ts : List TV} (h : InT w lo ts) {k : Nat} (hk : k ∈ tblks ts) : lo ≤ k ∧ k < w.heap.size := by
  obtain ⟨t, ht, e | e⟩ := mem_tblks hk
  · exact World.ownsRow.lt (h t ht).1 k e
  · exact World.ownsRow.lt (h t ht).2 k e
theorem OwnTs.bound {w : World} {lo : Nat} {v : Value} {ts : List TV} (h : OwnTs w lo v ts) {k : Nat} (hk : k ∈ oneB v ++ tblks ts) : lo ≤ k ∧ k < w.heap.size := by
  rcases List.mem_append.1 hk with hk | hk
  · exact World.ownsRow.lt h.row k (mem_oneB.1 hk)
  · exact tblks_bound h.ins hk
theorem tblks_push (ts : List TV) (t : TV) : tblks (ts ++ [t]) = tblks ts ++ (oneB t.vb ++ oneB t.vk) := by simp [tblks]
theorem oneB_nodup (v : Value) : (oneB v).Nodup := by
  unfold oneB
  cases v.ownBlock <;> simp
theorem nod_push {w w' : World} {lo : Nat} {v : Value} {ts : List TV} {t : TV} (hv : ∀ k, v.ownBlock = some k → k < w.heap.size) (hi : InT w lo ts) (hn : (oneB v ++ tblks ts).Nodup) (h1 : OwnI w' w.heap.size t.vb t.T.bits) (h2 : OwnS w' w.heap.size t.vk t.T.blocks) : (oneB v ++ tblks (ts ++ [t])).Nodup := by
  rw [tblks_push, ← List.append_assoc, List.nodup_append]
  refine ⟨hn, ?_, fun a ha b hb e => ?_⟩
  · rw [List.nodup_append]
    refine ⟨oneB_nodup _, oneB_nodup _, fun a ha b hb e => ?_⟩
    subst e
    exact rows_apart h1 h2 (by decide) a (mem_oneB.1 ha) (mem_oneB.1 hb)
  · subst e
    have hlt : a < w.heap.size := by
      rcases List.mem_append.1 ha with ha | ha
      · exact hv a (mem_oneB.1 ha)
      · exact (tblks_bound hi ha).2
    rcases List.mem_append.1 hb with hb | hb
    · have := (World.ownsRow.lt h1 a (mem_oneB.1 hb)).1; omega
    · have := (World.ownsRow.lt h2 a (mem_oneB.1 hb)).1; omega
def TosPost (w : World) (ts : List TV) (e : Ending) (w' : World) : Prop := ∃ u us, e = .returned u ∧ us.map (·.T) = ts.map (·.T) ∧ OwnTs w' w.heap.size u us ∧ Below w.heap.size w w'
theorem below_four {a W : World} {g i j k l : Nat} {x y z u : Value} (h : Below a.heap.size a W) (hg : a.heap.size ≤ g) : Below a.heap.size a ((((W.setCell ⟨g, i, none⟩ x).setCell ⟨g, j, none⟩ y).setCell ⟨g, k, none⟩ z).setCell ⟨g, l, none⟩ u) := (((h.setCell (p := ⟨g, i, none⟩) hg _).setCell (p := ⟨g, j, none⟩) hg _).setCell (p := ⟨g, k, none⟩) hg _).setCell (p := ⟨g, l, none⟩) hg _
theorem row_four {W : World} {B t s n g i j k l : Nat} {x y z u v : Value} {xs : List Value} (h : W.ownsRow B t s v n xs) (hg : ∀ k, v.ownBlock = some k → g ≠ k) : ((((W.setCell ⟨g, i, none⟩ x).setCell ⟨g, j, none⟩ y).setCell ⟨g, k, none⟩ z).setCell ⟨g, l, none⟩ u).ownsRow B t s v n xs := row_set (row_set (row_set (row_set h hg) hg) hg) hg
theorem toTabs_any (v : Value) (ts : List TV) (w : World) (hr : RdTs w v ts) (hn : ts.length ≤ 1048576) (hl : ∀ t ∈ ts, t.T.bits.length ≤ 1073741824 ∧ t.T.blocks.length ≤ 1073741824) :
    Calls Tryz.prog 29 #[v] w fun e w' => TosPost w ts e w' := by
  obtain ⟨i0, hi, hz0, hz1, hz2⟩ := info_parts Tryz.infoT72
  obtain ⟨a, cap, hv, hla, hma, -⟩ := id hr
  obtain ⟨nn, hnn⟩ : ∃ nn, nn = ts.length := ⟨_, rfl⟩
  have HNN : Hid (nn = ts.length) := hnn
  rw [← hnn] at hv hla hn
  subst hv
  unfold maxLen at hma
  have HL : Hid (∀ t ∈ ts, t.T.bits.length ≤ 1073741824 ∧ t.T.blocks.length ≤ 1073741824) := hl
  clear hnn hl
  go_enter Tryz.func29, Tryz.ntmps29
  go_wp2_with (at_make; (refine wpList_make_full _ rfl _ _ 31 rfl w.heap.size 72 i0 _ 4 Tryz.underlying31 hi hz0 hz1 .i64 .i64 (nn : Int) (nn : Int) nn rfl rfl rfl rfl ?c1 ?c2 ?c3 ?_))
  case c1 => rw [hz2]; omega
  case c2 => unfold maxLen; omega
  case c3 => omega
  intro w1 ho1 hg1
  rw [made_TVs] at ho1
  have hb1 : Below w.heap.size w w1 := (Below.refl _ _).grown hg1 (Nat.le_refl _) (fun k hk => by cases hk)
  have hs1 : w.heap.size + 1 ≤ w1.heap.size := (World.ownsRow.lt ho1 w.heap.size rfl).2
  clear hg1
  go_wp2
  go_loopw [4] (fun i wr => ∃ (k : Nat) (us : List TV), k ≤ nn ∧ i = .int .i64 k ∧ wr.ownsRow w.heap.size 72 4 (.slice (some ⟨w.heap.size, 0, none⟩) nn nn) nn (TVs (us ++ List.replicate (nn - k) zeroTV)) ∧ Hid (us.length = k ∧ us.map (·.T) = (ts.take k).map (·.T) ∧ InT wr (w.heap.size + 1) us ∧ (oneB (.slice (some ⟨w.heap.size, 0, none⟩) nn nn) ++ tblks us).Nodup) ∧ w.heap.size + 1 ≤ wr.heap.size ∧ Below w.heap.size w wr) (fun i _ => nn - (intOf i).toNat)
  case atStart => exact ⟨0, [], Nat.zero_le _, rfl, by simpa using ho1, ⟨rfl, rfl, (fun t ht => by cases ht), by simp [tblks, oneB_nodup]⟩, hs1, hb1⟩
  case round =>
    obtain ⟨k, us, hk, rfl, ho, HC, hs, hb⟩ := hrel
    clear ho1 hb1 hs1
    by_cases hlt : k < nn
    · have hkl : k < ts.length := by rw [← HNN.out]; exact hlt
      obtain ⟨b, off, rfl, hc, hri, hrs⟩ := (hr.below hb).at k hkl
      have hkc : k < cap := by omega
      have hlt2 := HL.out (nthT ts k) (by rw [nthT_eq hkl]; exact List.getElem_mem hkl)
      have HTK : Hid ((ts.take (k + 1)).map (·.T) = (ts.take k).map (·.T) ++ [(nthT ts k).T]) := by unfold Hid; rw [take_snoc hkl, List.map_append]; rfl
      have HCL : Hid (∀ W, RdI W (nthT ts k).vb (nthT ts k).T.bits → RdS W (nthT ts k).vk (nthT ts k).T.blocks → Calls Tryz.prog 63 #[.agg #[.string (nthT ts k).T.first, .string (nthT ts k).T.last, (nthT ts k).vb, (nthT ts k).vk]] W fun e w' => TabPost W (nthT ts k).T e w') := fun W h1 h2 => toTable_any _ _ _ W h1 h2 hlt2.1 hlt2.2
      unfold TabPost at HCL
      generalize nthT ts k = t at hc hri hrs HTK HCL
      obtain ⟨c0, c1, c2, c3⟩ := id hc
      clear hlt2 hkl
      go_wp2_with fail
      refine (HCL.out _ hri hrs).mono ?_
      rintro e w2 ⟨ub, uk, rfl, hub, huk, hb2⟩
      have ho2 := own_below ho hb2
      have hlen : (us ++ List.replicate (nn - k) zeroTV).length = nn := by rw [List.length_append, HC.out.1, List.length_replicate]; omega
      obtain ⟨d0, d1, d2, d3⟩ := ownT_cells ho2 hlen.symm k hlt
      have f0 := ho2.frozenAt (k * 4)
      have f1 := ho2.frozenAt (k * 4 + 1)
      have f2 := ho2.frozenAt (k * 4 + 2)
      have f3 := ho2.frozenAt (k * 4 + 3)
      have R1 := ownT_store4 ho2 (k := k) (by rw [hlen]; exact hlt) ⟨t.T, ub, uk⟩
      have hset : (us ++ List.replicate (nn - k) zeroTV).set k ⟨t.T, ub, uk⟩ = (us ++ [⟨t.T, ub, uk⟩]) ++ List.replicate (nn - (k + 1)) zeroTV := by
        obtain ⟨m, hm⟩ : ∃ m, nn - k = m + 1 := ⟨nn - k - 1, by omega⟩
        rw [List.set_append_right _ _ (by rw [HC.out.1]; exact Nat.le_refl _), HC.out.1, Nat.sub_self, hm, show nn - (k + 1) = m by omega, List.replicate_succ, List.set_cons_zero, List.append_assoc]
        rfl
      rw [hset] at R1
      have b3 := hb.trans (hb2.mono hb.size)
      have hgne : ∀ {B t s n : Nat} {v : Value} {xs : List Value}, w2.ownsRow B t s v n xs → w.heap.size + 1 ≤ B → ∀ q, v.ownBlock = some q → w.heap.size ≠ q := fun hr hB q hq e => by have := (World.ownsRow.lt hr q hq).1; omega
      obtain ⟨ab, cb, hvb, -⟩ := id hub.rd
      obtain ⟨ak, ck, hvk, -⟩ := id huk.rd
      have HC2 : Hid ((us ++ [(⟨t.T, ub, uk⟩ : TV)]).length = k + 1 ∧ (us ++ [(⟨t.T, ub, uk⟩ : TV)]).map (·.T) = (ts.take (k + 1)).map (·.T) ∧ InT ((((w2.setCell ⟨w.heap.size, k * 4, none⟩ (.string t.T.first)).setCell ⟨w.heap.size, k * 4 + 1, none⟩ (.string t.T.last)).setCell ⟨w.heap.size, k * 4 + 2, none⟩ ub).setCell ⟨w.heap.size, k * 4 + 3, none⟩ uk) (w.heap.size + 1) (us ++ [(⟨t.T, ub, uk⟩ : TV)]) ∧ (oneB (.slice (some ⟨w.heap.size, 0, none⟩) nn nn) ++ tblks (us ++ [(⟨t.T, ub, uk⟩ : TV)])).Nodup) := by
        obtain ⟨g1, g2, g3, g4⟩ := HC.out
        refine ⟨by rw [List.length_append, g1]; rfl, by rw [List.map_append, g2, HTK.out]; rfl, fun x hx => ?_, nod_push (fun q hq => by have : w.heap.size = q := Option.some.inj hq; omega) g3 g4 hub huk⟩
        rcases List.mem_append.1 hx with hx | hx
        · have h3 := (g3.below hb2) x hx
          exact ⟨row_four h3.1 (hgne h3.1 (Nat.le_refl _)), row_four h3.2 (hgne h3.2 (Nat.le_refl _))⟩
        · rw [List.mem_singleton.1 hx]
          exact ⟨(row_four (hub.mono hs) (hgne (hub.mono hs) (Nat.le_refl _)) : World.ownsRow _ _ _ _ _ _ _), (row_four (huk.mono hs) (hgne (huk.mono hs) (Nat.le_refl _)) : World.ownsRow _ _ _ _ _ _ _)⟩
      generalize t.T.bits.length = bn at hvb
      generalize t.T.blocks.length = kn at hvk
      subst hvb
      subst hvk
      have b4 := below_four (i := k * 4) (j := k * 4 + 1) (k := k * 4 + 2) (l := k * 4 + 3) (x := .string t.T.first) (y := .string t.T.last) (z := .slice ab bn cb) (u := .slice ak kn ck) b3 (Nat.le_refl _)
      have hs4 : w.heap.size + 1 ≤ w2.heap.size := Nat.le_trans hs hb2.size
      have H1 : Hid (World.ownsRow _ _ _ _ _ _ _) := R1
      clear ho ho2 hub huk hb hb2 b3 R1 hset hlen HC HTK HCL hc hri hrs c0 c1 c2 c3 hgne
      go_wp2
      go_roundw
      case rel => exact ⟨k + 1, _, by omega, by go_num, H1.out, HC2, by simpa using hs4, b4⟩
      case measure => simp [intOf]; omega
    · have hke : k = nn := by omega
      have HEND : Hid (TosPost w ts (.returned (.slice (some ⟨w.heap.size, 0, none⟩) nn nn)) wr) := by
        obtain ⟨g1, g2, g3, g4⟩ := HC.out
        refine ⟨_, us, rfl, by rw [g2, hke, HNN.out, List.take_length], ⟨?_, g3.mono (by omega), g4⟩, hb⟩
        unfold OwnT
        rw [g1, hke]
        rw [hke, Nat.sub_self, List.replicate_zero, List.append_nil] at ho
        exact ho
      clear ho HC hke
      go_wp2
      go_ret
      exact HEND.out
end Go.Proofs.YtbefmbjlogkmbaaGreat
