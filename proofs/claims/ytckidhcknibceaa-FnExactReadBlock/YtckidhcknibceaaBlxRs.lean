/- The contract of the model's ReadBlock. -/
-- UNF Gen
import Derived.Test.YtckidhcknibceaaBlxSs
import Derived.Test.YtckidhcknibceaaBlxRd
import Derived.Test.YtckidhcknibceaaBlxCp
import Derived.Test.YtckidhcknibceaaMany
import Derived.Deep.DeepCutAuto
namespace Go.Proofs.Ytckidhcknibceaa
open Go.RowKit
def blkZ : Blk := ⟨0, 0, prfZ, [], 0⟩
/-- What ReadBlock leaves. -/
def RbP (w : World) (o : Option Blk) (e : Ending) (w' : World) : Prop :=
  ∃ Y : BlX, e = .returned (.tuple #[.agg #[.int .i64 Y.b.vw, .int .i64 Y.b.pa, .int .i64 Y.b.p.vw, .int .i64 Y.b.p.nm, Y.vs, Y.vt, Y.vm, .int .i64 Y.b.sv], .bool o.isSome]) ∧ Y.b = o.getD blkZ ∧ OwnBl w' w.heap.size Y ∧ Below w.heap.size w w'
theorem ownBl_zero (w : World) (B : Nat) : OwnBl w B ⟨blkZ, .slice none 0 0, .slice none 0 0, .slice none 0 0⟩ := ⟨ownPr_zero w B 0 0, ⟨rfl, .inl ⟨rfl, rfl⟩⟩, (fun q h => by simp [Value.ownBlock] at h), (fun q h => by simp [Value.ownBlock] at h)⟩
theorem RbP.no {w w' : World} {o : Option Blk} (h : o = none) (hb : Below w.heap.size w w') : RbP w o (.returned (.tuple #[.agg #[.int .i64 0, .int .i64 0, .int .i64 0, .int .i64 0, .slice none 0 0, .slice none 0 0, .slice none 0 0, .int .i64 0], .bool false])) w' := by
  subst h
  exact ⟨⟨blkZ, .slice none 0 0, .slice none 0 0, .slice none 0 0⟩, rfl, rfl, ownBl_zero _ _, hb⟩
/-- A box at g, made behind w0, that holds the cells cs; and a proof's rows, the call's own. -/
structure BkBx (w0 w : World) (g : Nat) (cs : Array Value) (X : PrX) : Prop where
  ge : w0.heap.size ≤ g
  box : Bx w g 32 cs
  own : OwnPr w w0.heap.size X
  bel : Below w0.heap.size w0 w
theorem BkBx.below {w0 w w' : World} {g : Nat} {cs : Array Value} {X : PrX} (h : BkBx w0 w g cs X) (hb : Below w.heap.size w w') : BkBx w0 w' g cs X :=
  ⟨h.ge, h.box.below hb, h.own.below hb, h.bel.trans (hb.mono h.bel.size)⟩
theorem BkBx.drew {w0 w : World} {g : Nat} {cs : Array Value} {X : PrX} (h : BkBx w0 w g cs X) : BkBx w0 w.drew g cs X := h.below (Below.refl _ _).drew
theorem BkBx.ne {w0 w : World} {g : Nat} {cs : Array Value} {X : PrX} (h : BkBx w0 w g cs X) : ∀ k ∈ prB X, g ≠ k := by
  intro k hk
  rcases List.mem_append.1 hk with hk | hk
  · exact h.box.row h.own.sv (by decide) k (mem_oneB.1 hk)
  · exact h.box.row h.own.tg (by decide) k (mem_oneB.1 hk)
theorem BkBx.set {w0 w : World} {g : Nat} {cs : Array Value} {X : PrX} (h : BkBx w0 w g cs X) (i : Nat) (u : Value) : BkBx w0 (w.setCell ⟨g, i, none⟩ u) g (cs.setIfInBounds i u) X := by
  refine ⟨h.ge, h.box.set i u, h.own.touch (bs := [g]) (Touch.set (List.mem_singleton.2 rfl)) (fun k hk e => h.ne k hk (List.mem_singleton.1 e).symm), h.bel.setCell h.ge _⟩
/-- Behind an append onto the servers. -/
theorem BkBx.app {w0 w w' : World} {g : Nat} {cs : Array Value} {X : PrX} (h : BkBx w0 w g cs X) {v' : Value} {zs : List Int} (ho : OwnI w' w0.heap.size v' (X.p.sv ++ zs)) (hg : w.grownBy w' X.vs.ownBlock) (ha : v'.ownBlock = X.vs.ownBlock ∨ v'.ownBlock = some w.heap.size) :
    BkBx w0 w' g cs ⟨⟨X.p.vw, X.p.nm, X.p.sv ++ zs, X.p.tg⟩, v', X.vt⟩ := by
  have hgo : ∀ k, X.vs.ownBlock = some k → w0.heap.size ≤ k ∧ k < w.heap.size := fun k hk => World.ownsRow.lt h.own.sv k hk
  refine ⟨h.ge, h.box.of_block (hg.block g h.box.lt (fun e => h.box.row h.own.sv (by decide) g e.symm rfl)), ⟨ho, row_kept h.own.tg hg (fun k hk e => h.own.two k e hk), fun q h1 h2 => ?_⟩, h.bel.grown hg h.bel.size (fun k hk => (hgo k hk).1)⟩
  simp only at h1 h2
  rcases ha with ha | ha
  · exact h.own.two q (by rw [← ha]; exact h1) h2
  · rw [ha] at h1
    have e : w.heap.size = q := Option.some.inj h1
    have := (World.ownsRow.lt h.own.tg q h2).2
    omega
/-- Behind an append onto the tags. -/
theorem BkBx.apt {w0 w w' : World} {g : Nat} {cs : Array Value} {X : PrX} (h : BkBx w0 w g cs X) {v' : Value} {zs : List Int} (ho : OwnI w' w0.heap.size v' (X.p.tg ++ zs)) (hg : w.grownBy w' X.vt.ownBlock) (ha : v'.ownBlock = X.vt.ownBlock ∨ v'.ownBlock = some w.heap.size) :
    BkBx w0 w' g cs ⟨⟨X.p.vw, X.p.nm, X.p.sv, X.p.tg ++ zs⟩, X.vs, v'⟩ := by
  have hgo : ∀ k, X.vt.ownBlock = some k → w0.heap.size ≤ k ∧ k < w.heap.size := fun k hk => World.ownsRow.lt h.own.tg k hk
  refine ⟨h.ge, h.box.of_block (hg.block g h.box.lt (fun e => h.box.row h.own.tg (by decide) g e.symm rfl)), ⟨row_kept h.own.sv hg (fun k hk e => h.own.two k hk e), ho, fun q h1 h2 => ?_⟩, h.bel.grown hg h.bel.size (fun k hk => (hgo k hk).1)⟩
  simp only at h1 h2
  rcases ha with ha | ha
  · exact h.own.two q h1 (by rw [← ha]; exact h2)
  · rw [ha] at h2
    have e : w.heap.size = q := Option.some.inj h2
    have := (World.ownsRow.lt h.own.sv q h1).2
    omega
/-- How many numbers are wanted. -/
def WantOk (bs : List UInt8) (k wn : Nat) : Prop := (k < 5 ∧ wn = 5) ∨ (5 ≤ k ∧ ∃ h p n, rdK bs 5 = some (h, p) ∧ gI h 4 = ((n : Nat) : Int) ∧ n ≤ 7 ∧ wn = 5 + 2 * n)
theorem WantOk.fail {bs : List UInt8} {k wn : Nat} (h : WantOk bs k wn) (hk : k < wn) (hr : rdK bs (k + 1) = none) : RBl bs = none := by
  refine RBl_none ?_
  rcases h with ⟨h5, _⟩ | ⟨h5, hh, p, n, h1, h2, h3, h4⟩
  · exact rdB_no5 (rdK_more hr 5 (by omega))
  · exact rdB_noK h1 h2 (rdK_more hr _ (by omega))
theorem gI_last {l : List Int} {x : Int} {k : Nat} (h : l.length = k) : gI (l ++ [x]) k = x := by subst h; simp [gI]
theorem evn_get : ∀ (l : List Int) (j : Nat), 2 * j + 1 < l.length → (evn l)[j]? = l[2 * j]? ∧ (odd l)[j]? = l[2 * j + 1]?
  | x :: y :: r, 0, _ => ⟨rfl, rfl⟩
  | x :: y :: r, j + 1, h => by
    have := evn_get r j (by simp only [List.length_cons] at h; omega)
    rw [show 2 * (j + 1) = 2 * j + 1 + 1 by omega]
    simp only [evn, odd, List.getElem?_cons_succ]
    exact this
  | [x], j, h => by simp only [List.length_cons, List.length_nil] at h; omega
  | [], j, h => by simp at h
theorem numL_ne (l : List Int) (h : 0 < l.length) (ha : l.all inO = true) : numL l ≠ [] := by
  cases l with
  | nil => simp at h
  | cons x r =>
    simp only [List.all_cons, Bool.and_eq_true] at ha
    intro e
    simp only [numL, List.flatMap_cons, List.append_eq_nil_iff] at e
    have h1 := num_emp x
    rw [e.1, ha.1] at h1
    cases h1
theorem take_one {l : List Int} {j : Nat} {x : Int} (h : l[j]? = some x) : l.take (j + 1) = l.take j ++ [x] := by rw [List.take_add_one, h]; rfl
theorem drop_get (l : List Int) (i j : Nat) : (l.drop i)[j]? = l[i + j]? := by rw [List.getElem?_drop]
theorem str_isE {s : ByteArray} (h : s.data.toList ≠ []) : s.toList.isEmpty = false := by
  rw [ByteArray.toList_eq, List.isEmpty_eq_false_iff]
  exact h
theorem str_neq {s : ByteArray} {l : List UInt8} (b : Bool) (h : decide (l = s.data.toList) = b) : (!(⟨l.toArray⟩ : ByteArray).toList == s.toList) = !b := by
  rw [ByteArray.toList_eq, ByteArray.toList_eq, ← h]
  simp only
  cases hb : decide (l = s.data.toList) with
  | true => simp [of_decide_eq_true hb]
  | false => simp [of_decide_eq_false hb]
set_option maxHeartbeats 8000000 in
set_option maxRecDepth 100000 in
theorem specReadBlock_any (s : ByteArray) (w : World) (hs : s.size ≤ 1048576) :
    Calls Try.prog 11 #[.string s] w fun e w' => RbP w (RBl s.data.toList) e w' := by
  obtain ⟨bs, hbs⟩ : ∃ bs, bs = s.data.toList := ⟨_, rfl⟩
  obtain ⟨N, hN⟩ : ∃ N, N = s.size := ⟨_, rfl⟩
  have hlen : bs.length = N := by rw [hbs, hN]; exact size_length s
  have hcv := conv_bytes (w.alloc (.cells #[.int .i64 0, .int .i64 0, .int .i64 0, .int .i64 0, .slice none 0 0, .slice none 0 0, .slice none 0 0, .int .i64 0] 32)) s
  have hrd := bytes_rd (w.alloc (.cells #[.int .i64 0, .int .i64 0, .int .i64 0, .int .i64 0, .slice none 0 0, .slice none 0 0, .slice none 0 0, .int .i64 0] 32)) s (by unfold maxLen; omega)
  have hbl := bytes_below (w.alloc (.cells #[.int .i64 0, .int .i64 0, .int .i64 0, .int .i64 0, .slice none 0 0, .slice none 0 0, .slice none 0 0, .int .i64 0] 32)) s
  rw [← hbs] at hrd
  rw [← hN] at hcv hrd hs
  have X1 := bx_new w 32 #[.int .i64 0, .int .i64 0, .int .i64 0, .int .i64 0, .slice none 0 0, .slice none 0 0, .slice none 0 0, .int .i64 0]
  have B1 := below1 w (.cells #[.int .i64 0, .int .i64 0, .int .i64 0, .int .i64 0, .slice none 0 0, .slice none 0 0, .slice none 0 0, .int .i64 0] 32)
  obtain ⟨W2, hW2⟩ : ∃ W2, W2 = Lib.bytesWorld (w.alloc (.cells #[.int .i64 0, .int .i64 0, .int .i64 0, .int .i64 0, .slice none 0 0, .slice none 0 0, .slice none 0 0, .int .i64 0] 32)) 5 s := ⟨_, rfl⟩
  rw [← hW2] at hcv hrd hbl
  have HX : Hid (Bx W2 w.heap.size 32 #[.int .i64 0, .int .i64 0, .int .i64 0, .int .i64 0, .slice none 0 0, .slice none 0 0, .slice none 0 0, .int .i64 0]) := X1.below hbl
  have HB2 : Hid (Below w.heap.size w W2) := B1.trans (hbl.mono B1.size)
  have HG : Hid (w.heap.size < W2.heap.size) := by have h1 := hbl.size; simp at h1; unfold Hid; omega
  generalize grownCap (w.alloc (.cells #[.int .i64 0, .int .i64 0, .int .i64 0, .int .i64 0, .slice none 0 0, .slice none 0 0, .slice none 0 0, .int .i64 0] 32)) N 0 5 = cap at hcv hrd
  generalize (w.alloc (.cells #[.int .i64 0, .int .i64 0, .int .i64 0, .int .i64 0, .slice none 0 0, .slice none 0 0, .slice none 0 0, .int .i64 0] 32)).heap.size = dB at hcv hrd
  have HRD : Hid (Rd W2 (.slice (some ⟨dB, 0, none⟩) N cap) bs) := hrd
  obtain ⟨_, _, hsl, hNc, hcm, hcells⟩ := hrd
  simp only [Value.slice.injEq] at hsl
  obtain ⟨hs1, -, hs3⟩ := hsl
  subst hs3
  rw [hlen] at hNc
  have HRp : Hid (∀ p, p ≤ N → p < cap → ∀ V, Below W2.heap.size W2 V → Rd V (.slice (some ⟨dB, p, none⟩) (N - p) (cap - p)) (bs.drop p)) := by
    intro p hp hpc V hb
    rcases hcells with h0 | ⟨b, off, ha, hc⟩
    · have hN0 : N = 0 := by rw [← hlen, h0]; rfl
      have hp0 : p = 0 := by omega
      subst hp0
      rw [h0, hN0]
      exact ⟨some ⟨dB, 0, none⟩, cap, by simp, Nat.zero_le _, hcm, .inl rfl⟩
    · rw [← hs1] at ha
      obtain ⟨rfl, rfl⟩ : b = dB ∧ off = 0 := by injection ha with ha; injection ha with h1 h2 _; exact ⟨h1.symm, h2.symm⟩
      have := rd_drop (w := V) (b := b) (off := 0) (cap := cap) (p := p) (bs := bs) (by rw [hlen]; exact hNc) hcm (fun i hi => (hb.cell (p := ⟨b, 0 + i, none⟩) (World.block_lt_of_cell? W2 _ (hc i hi))).trans (hc i hi))
      rw [hlen, Nat.zero_add] at this
      exact this
  have HRe : Hid (∀ p, cap ≤ p → ∀ V a, Rd V (.slice a 0 0) (bs.drop p) ∧ rdNum (bs.drop p) = (0, 0) ∧ rdAll (bs.drop p) = none) := by
    intro p hp V a
    have hd : bs.drop p = [] := List.drop_eq_nil_of_le (by rw [hlen]; omega)
    rw [hd]
    exact ⟨rd_empty V a 0 (Nat.zero_le _), rfl, rfl⟩
  have HLEN : Hid (bs.length = N) := hlen
  have HNE : Hid (bs = s.data.toList) := hbs
  obtain ⟨R, hR⟩ : ∃ R, R = RBl bs := ⟨_, rfl⟩
  have HR : Hid (R = RBl bs) := hR
  rw [← hbs, ← hR]
  unfold maxLen at hcm
  clear X1 B1 hbl hcells hs1 hlen hbs hR hW2 hN
  go_enter Try.func11, Try.ntmps11
  go_wp2
  have O0 := ownI_none W2
  have B0 := below1 W2 (.cells #[] 2)
  go_loopw [5, 6, 7] (fun ll aa ww wr => ∃ (k p wn : Nat) (la : Option Addr) (lc : Nat) (ns : List Int), ll = .slice la k lc ∧ aa = .int .i64 p ∧ ww = .int .i64 wn ∧ p ≤ N ∧ wn ≤ 19 ∧ k ≤ wn ∧ Hid (OwnI wr W2.heap.size (.slice la k lc) ns) ∧ Hid (rdK bs k = some (ns, p)) ∧ Hid (WantOk bs k wn) ∧ Hid (Below W2.heap.size W2 wr)) (fun _ aa _ _ => N + 1 - (intOf aa).toNat)
  case atStart => exact ⟨0, 0, 5, some ⟨W2.heap.size, 0, none⟩, 0, [], rfl, rfl, rfl, Nat.zero_le _, by omega, by omega, O0, rfl, .inl ⟨by omega, rfl⟩, B0⟩
  case round =>
    obtain ⟨k, p, wn, la, lc, ns, rfl, rfl, rfl, hp, hw19, hkw, HO, HK, HW, HB⟩ := hrel
    clear O0 B0
    have HNK : Hid (ns.length = k) := (rdK_back _ _ _ HK.out).1
    by_cases hlt : k < wn
    · by_cases hcp : cap = p
      · have hE := HRe.out p (by omega)
        have RES : Hid (R = none) := HR.out.trans (HW.out.fail hlt (rdK_no HK.out (by rw [(hE W2 none).2.1])))
        have HEE : Hid (∀ V a, Rd V (.slice a 0 0) (bs.drop p)) := fun V a => (hE V a).1
        have HEN : Hid (rdNum (bs.drop p) = (0, 0)) := (hE W2 none).2.1
        have hNp : N = p := by omega
        subst hcp
        subst hNp
        have X9 := HX.out.below HB.out
        have HBZ : Hid (Below w.heap.size w (put8B wr w.heap.size (.int .i64 0) (.int .i64 0) (.int .i64 0) (.int .i64 0) (.slice none 0 0) (.slice none 0 0) (.slice none 0 0) (.int .i64 0))) := put8B_below (HB2.out.trans (HB.out.mono HB2.out.size)) (Nat.le_refl _)
        have HEN2 : Hid (∀ V a, Calls Try.prog 30 #[.slice a 0 0] V fun e w' => e = .returned (.tuple #[.int .i64 0, .int .i64 0]) ∧ w' = V) := fun V a => by have := specReadNumber_any _ _ V (HEE.out V a); rw [HEN.out] at this; exact this
        clear hE HEE HEN HRp HRe HRD
        go_wp2_with fail
        refine (HEN2.out _ _).mono ?_
        rintro e w2 ⟨rfl, rfl⟩
        have HX9 : Hid (Bx w2 w.heap.size 32 #[.int .i64 0, .int .i64 0, .int .i64 0, .int .i64 0, .slice none 0 0, .slice none 0 0, .slice none 0 0, .int .i64 0]) := X9
        obtain ⟨c0, c1, c2, c3, c4, c5, c6, c7⟩ := X9.c8
        obtain ⟨f0, f1, f2, f3, f4, f5, f6, f7⟩ := X9.f8
        clear X9
        go_wp2
        obtain ⟨z0, z1, z2, z3, z4, z5, z6, z7⟩ := (Bx.put8 HX9.out (.int .i64 0) (.int .i64 0) (.int .i64 0) (.int .i64 0) (.slice none 0 0) (.slice none 0 0) (.slice none 0 0) (.int .i64 0)).c8
        unfold put8B at z0 z1 z2 z3 z4 z5 z6 z7 HBZ
        exact bodyPost_ret (v := .tuple #[.agg #[.int .i64 0, .int .i64 0, .int .i64 0, .int .i64 0, .slice none 0 0, .slice none 0 0, .slice none 0 0, .int .i64 0], .bool false]) (by simp [results, Try.results11, go_sem, z0, z1, z2, z3, z4, z5, z6, z7]) rfl (RbP.no RES.out HBZ.out)
      · have hpc : p < cap := by omega
        have HRR : Hid (Rd wr (.slice (some ⟨dB, p, none⟩) (N - p) (cap - p)) (bs.drop p)) := HRp.out p hp hpc wr HB.out
        obtain ⟨x, hx⟩ : ∃ x, x = (rdNum (bs.drop p)).1 := ⟨_, rfl⟩
        obtain ⟨z, hz⟩ : ∃ z, z = (rdNum (bs.drop p)).2 := ⟨_, rfl⟩
        have HXE : Hid (x = (rdNum (bs.drop p)).1) := hx
        have HZE : Hid (z = (rdNum (bs.drop p)).2) := hz
        have hrl := rdNum_len (bs.drop p)
        rw [← hx, ← hz, List.length_drop, HLEN.out] at hrl
        obtain ⟨hzl, hxm, hz6⟩ := hrl
        have HRN : Hid (∀ V, Rd V (.slice (some ⟨dB, p, none⟩) (N - p) (cap - p)) (bs.drop p) → Calls Try.prog 30 #[.slice (some ⟨dB, p, none⟩) (N - p) (cap - p)] V fun e w' => e = .returned (.tuple #[.int .i64 (x : Int), .int .i64 (z : Int)]) ∧ w' = V) := fun V h => by rw [hx, hz]; exact specReadNumber_any _ _ V h
        clear hx hz
        by_cases h0 : z = 0
        · have RES : Hid (R = none) := HR.out.trans (HW.out.fail hlt (rdK_no HK.out (by rw [← HZE.out]; exact h0)))
          have HRN0 : Hid (∀ V, Rd V (.slice (some ⟨dB, p, none⟩) (N - p) (cap - p)) (bs.drop p) → Calls Try.prog 30 #[.slice (some ⟨dB, p, none⟩) (N - p) (cap - p)] V fun e w' => e = .returned (.tuple #[.int .i64 (x : Int), .int .i64 0]) ∧ w' = V) := fun V h => by have := HRN.out V h; rw [h0] at this; exact this
          clear HRN h0
          have X9 := HX.out.below HB.out
          have HBZ : Hid (Below w.heap.size w (put8B wr w.heap.size (.int .i64 0) (.int .i64 0) (.int .i64 0) (.int .i64 0) (.slice none 0 0) (.slice none 0 0) (.slice none 0 0) (.int .i64 0))) := put8B_below (HB2.out.trans (HB.out.mono HB2.out.size)) (Nat.le_refl _)
          go_wp2_with fail
          refine (HRN0.out _ HRR.out).mono ?_
          rintro e w2 ⟨rfl, rfl⟩
          have HX9 : Hid (Bx w2 w.heap.size 32 #[.int .i64 0, .int .i64 0, .int .i64 0, .int .i64 0, .slice none 0 0, .slice none 0 0, .slice none 0 0, .int .i64 0]) := X9
          obtain ⟨c0, c1, c2, c3, c4, c5, c6, c7⟩ := X9.c8
          obtain ⟨f0, f1, f2, f3, f4, f5, f6, f7⟩ := X9.f8
          clear X9
          go_wp2
          obtain ⟨z0, z1, z2, z3, z4, z5, z6, z7⟩ := (Bx.put8 HX9.out (.int .i64 0) (.int .i64 0) (.int .i64 0) (.int .i64 0) (.slice none 0 0) (.slice none 0 0) (.slice none 0 0) (.int .i64 0)).c8
          unfold put8B at z0 z1 z2 z3 z4 z5 z6 z7 HBZ
          exact bodyPost_ret (v := .tuple #[.agg #[.int .i64 0, .int .i64 0, .int .i64 0, .int .i64 0, .slice none 0 0, .slice none 0 0, .slice none 0 0, .int .i64 0], .bool false]) (by simp [results, Try.results11, go_sem, z0, z1, z2, z3, z4, z5, z6, z7]) rfl (RbP.no RES.out HBZ.out)
        · have hz0 : ((z : Int) == 0) = false := by simp; omega
          have HK2 : Hid (rdK bs (k + 1) = some (ns ++ [(x : Int)], p + z)) := by unfold Hid; rw [rdK_go HK.out (by rw [← HZE.out]; exact h0), ← HXE.out, ← HZE.out]
          have HO1 : Hid (OwnI (wr.alloc (.cells #[.int .i64 (x : Int)] 2)) W2.heap.size (.slice la k lc) ns) := OwnI.below HO.out (below1 wr _)
          have HB1 : Hid (Below W2.heap.size W2 (wr.alloc (.cells #[.int .i64 (x : Int)] 2))) := HB.out.alloc HB.out.size _
          go_wp2_with fail
          refine (HRN.out _ HRR.out).mono ?_
          rintro e w2 ⟨rfl, rfl⟩
          clear HRN HRR
          go_wp2_with (at_builtin; (refine wpList_append_ints rfl _ _ rfl W2.heap.size _ _ ns [(x : Int)] rfl rfl HO1.out (rdI_one _ _) (by have := HNK.out; simp; omega) HB1.out.size ?_))
          intro v3 w3 ho3 hg3
          have HB3 : Hid (Below W2.heap.size W2 w3) := HB1.out.grown hg3 HB1.out.size (fun q hq => (World.ownsRow.lt HO1.out q hq).1)
          obtain ⟨va, vc, hv3⟩ := ownSlX ho3
          have hl3 : (ns ++ [(x : Int)]).length = k + 1 := by rw [List.length_append, HNK.out]; rfl
          obtain ⟨k1, hk1⟩ : ∃ k1, k1 = k + 1 := ⟨_, rfl⟩
          rw [hl3, ← hk1] at hv3
          subst hv3
          rw [← hk1] at HK2
          have HO3 : Hid (OwnI w3 W2.heap.size (.slice va k1 vc) (ns ++ [(x : Int)])) := ho3
          have HGL : Hid (gI (ns ++ [(x : Int)]) k = (x : Int)) := gI_last HNK.out
          clear ho3 hg3 HO1 HB1 hl3 HO HK
          by_cases hk5 : k = 4
          · subst hk5
            obtain rfl : k1 = 5 := hk1
            by_cases h7 : 7 < x
            · have RES : Hid (R = none) := HR.out.trans (RBl_none (rdB_no7 HK2.out (by rw [HGL.out]; omega)))
              have X9 := HX.out.below HB3.out
              have HBZ : Hid (Below w.heap.size w (put8B w3 w.heap.size (.int .i64 0) (.int .i64 0) (.int .i64 0) (.int .i64 0) (.slice none 0 0) (.slice none 0 0) (.slice none 0 0) (.int .i64 0))) := put8B_below (HB2.out.trans (HB3.out.mono HB2.out.size)) (Nat.le_refl _)
              have HX9 : Hid (Bx w3 w.heap.size 32 #[.int .i64 0, .int .i64 0, .int .i64 0, .int .i64 0, .slice none 0 0, .slice none 0 0, .slice none 0 0, .int .i64 0]) := X9
              obtain ⟨c0, c1, c2, c3, c4, c5, c6, c7⟩ := X9.c8
              obtain ⟨f0, f1, f2, f3, f4, f5, f6, f7⟩ := X9.f8
              clear X9
              go_wp2
              obtain ⟨z0, z1, z2, z3, z4, z5, z6, z7⟩ := (Bx.put8 HX9.out (.int .i64 0) (.int .i64 0) (.int .i64 0) (.int .i64 0) (.slice none 0 0) (.slice none 0 0) (.slice none 0 0) (.int .i64 0)).c8
              unfold put8B at z0 z1 z2 z3 z4 z5 z6 z7 HBZ
              exact bodyPost_ret (v := .tuple #[.agg #[.int .i64 0, .int .i64 0, .int .i64 0, .int .i64 0, .slice none 0 0, .slice none 0 0, .slice none 0 0, .int .i64 0], .bool false]) (by simp [results, Try.results11, go_sem, z0, z1, z2, z3, z4, z5, z6, z7]) rfl (RbP.no RES.out HBZ.out)
            · have HW2 : Hid (WantOk bs 5 (5 + 2 * x)) := .inr ⟨Nat.le_refl _, _, _, x, HK2.out, HGL.out, by omega, rfl⟩
              go_wp2
              go_roundw
              case rel => exact ⟨5, p + z, 5 + 2 * x, va, vc, _, rfl, by go_num, by go_num, by omega, by omega, by omega, HO3, HK2, HW2, HB3⟩
              case measure => simp [intOf]; omega
          · have HW2 : Hid (WantOk bs (k + 1) wn) := by
              rcases HW.out with ⟨h5, h6⟩ | ⟨h5, h6⟩
              · exact .inl ⟨by omega, h6⟩
              · exact .inr ⟨by omega, h6⟩
            have hk5d : ((k1 : Int) == 5) = false := by simp; omega
            rw [← hk1] at HW2
            have HKW : Hid (k1 ≤ wn) := by unfold Hid; omega
            clear hk1 hk5
            go_wp2
            go_roundw
            case rel => exact ⟨k1, p + z, wn, va, vc, _, rfl, by go_num, rfl, by omega, by omega, HKW.out, HO3, HK2, HW2, HB3⟩
            case measure => simp [intOf]; omega
    · have hkw2 : k = wn := by omega
      subst hkw2
      obtain ⟨hh, pp, n, h1, h2, hn7, h4⟩ : ∃ hh pp n, rdK bs 5 = some (hh, pp) ∧ gI hh 4 = ((n : Nat) : Int) ∧ n ≤ 7 ∧ k = 5 + 2 * n := by
        rcases HW.out with ⟨h5, h6⟩ | ⟨h5, h6⟩
        · omega
        · exact h6
      have H1 : Hid (rdK bs 5 = some (hh, pp)) := h1
      have H2 : Hid (gI hh 4 = (n : Int)) := h2
      have H4 : Hid (k = 5 + 2 * n) := h4
      have HK5 : Hid (rdK bs (5 + 2 * n) = some (ns, p)) := by unfold Hid; rw [← h4]; exact HK.out
      have hk19 : 5 ≤ k ∧ k ≤ 19 := by omega
      obtain ⟨wA, hwA⟩ : ∃ wA, wA = wr := ⟨_, rfl⟩
      subst hwA
      obtain ⟨lg, lcap, hla⟩ := ownI_some HO.out (fun e => by have h9 := HNK.out; rw [e] at h9; simp at h9; omega)
      simp only [Value.slice.injEq] at hla
      obtain ⟨hla, -, -⟩ := hla
      subst hla
      have HOC : Hid (∀ V, Below wA.heap.size wA V → ∀ i (hi : i < ns.length), V.cell? ⟨lg, i, none⟩ = some (.int .i64 ns[i])) := fun V hb i hi => by
        obtain ⟨b9, o9, h9, hc9⟩ := RdI.at (OwnI.below HO.out hb).rd i hi
        simp only [Option.some.injEq, Addr.mk.injEq, and_true] at h9
        obtain ⟨rfl, rfl⟩ := h9
        rw [Nat.zero_add] at hc9
        exact hc9
      clear h1 h2 h4 HK HW hlt
      by_cases hcp : cap = p
      · have hE := HRe.out p (by omega)
        have RES : Hid (R = none) := HR.out.trans (RBl_none (rdB_noT H1.out H2.out HK5.out (hE wA none).2.2))
        have HTE : Hid (∀ V a, Calls Try.prog 31 #[.slice a 0 0] V fun e w' => ∃ u, e = .returned (.tuple #[u, .int .i64 0]) ∧ Below V.heap.size V w') := fun V a => (l1ReadTexts_any _ (bs.drop p) V (hE V a).1).mono fun e w' h => by
          rw [(hE wA none).2.2] at h
          obtain ⟨u, h1, h2, h3⟩ := h
          exact ⟨u, h1, h3⟩
        have hNp : N = p := by omega
        subst hcp
        subst hNp
        clear hE HRp HRe HRD
        go_wp2_with fail
        refine (HTE.out _ _).mono ?_
        rintro e w3 ⟨u3, rfl, hb3⟩
        have HB3 : Hid (Below W2.heap.size W2 w3) := HB.out.trans (hb3.mono HB.out.size)
        have X9 := HX.out.below HB3.out
        have HBZ : Hid (Below w.heap.size w (put8B w3 w.heap.size (.int .i64 0) (.int .i64 0) (.int .i64 0) (.int .i64 0) (.slice none 0 0) (.slice none 0 0) (.slice none 0 0) (.int .i64 0))) := put8B_below (HB2.out.trans (HB3.out.mono HB2.out.size)) (Nat.le_refl _)
        have HX9 : Hid (Bx w3 w.heap.size 32 #[.int .i64 0, .int .i64 0, .int .i64 0, .int .i64 0, .slice none 0 0, .slice none 0 0, .slice none 0 0, .int .i64 0]) := X9
        obtain ⟨c0, c1, c2, c3, c4, c5, c6, c7⟩ := X9.c8
        obtain ⟨f0, f1, f2, f3, f4, f5, f6, f7⟩ := X9.f8
        clear X9
        go_wp2
        obtain ⟨z0, z1, z2, z3, z4, z5, z6, z7⟩ := (Bx.put8 HX9.out (.int .i64 0) (.int .i64 0) (.int .i64 0) (.int .i64 0) (.slice none 0 0) (.slice none 0 0) (.slice none 0 0) (.int .i64 0)).c8
        unfold put8B at z0 z1 z2 z3 z4 z5 z6 z7 HBZ
        exact bodyPost_ret (v := .tuple #[.agg #[.int .i64 0, .int .i64 0, .int .i64 0, .int .i64 0, .slice none 0 0, .slice none 0 0, .slice none 0 0, .int .i64 0], .bool false]) (by simp [results, Try.results11, go_sem, z0, z1, z2, z3, z4, z5, z6, z7]) rfl (RbP.no RES.out HBZ.out)
      have hpc : p < cap := by omega
      have HRR : Hid (Rd wA (.slice (some ⟨dB, p, none⟩) (N - p) (cap - p)) (bs.drop p)) := HRp.out p hp hpc wA HB.out
      cases hall : rdAll (bs.drop p) with
      | none =>
        have RES : Hid (R = none) := HR.out.trans (RBl_none (rdB_noT H1.out H2.out HK5.out hall))
        have HTE : Hid (Calls Try.prog 31 #[.slice (some ⟨dB, p, none⟩) (N - p) (cap - p)] wA fun e w' => ∃ u, e = .returned (.tuple #[u, .int .i64 0]) ∧ Below wA.heap.size wA w') := (l1ReadTexts_any _ (bs.drop p) wA HRR.out).mono fun e w' h => by
          rw [hall] at h
          obtain ⟨u, h1, h2, h3⟩ := h
          exact ⟨u, h1, h3⟩
        clear hall
        go_wp2_with fail
        refine HTE.out.mono ?_
        rintro e w3 ⟨u3, rfl, hb3⟩
        have HB3 : Hid (Below W2.heap.size W2 w3) := HB.out.trans (hb3.mono HB.out.size)
        have X9 := HX.out.below HB3.out
        have HBZ : Hid (Below w.heap.size w (put8B w3 w.heap.size (.int .i64 0) (.int .i64 0) (.int .i64 0) (.int .i64 0) (.slice none 0 0) (.slice none 0 0) (.slice none 0 0) (.int .i64 0))) := put8B_below (HB2.out.trans (HB3.out.mono HB2.out.size)) (Nat.le_refl _)
        have HX9 : Hid (Bx w3 w.heap.size 32 #[.int .i64 0, .int .i64 0, .int .i64 0, .int .i64 0, .slice none 0 0, .slice none 0 0, .slice none 0 0, .int .i64 0]) := X9
        obtain ⟨c0, c1, c2, c3, c4, c5, c6, c7⟩ := X9.c8
        obtain ⟨f0, f1, f2, f3, f4, f5, f6, f7⟩ := X9.f8
        clear X9
        go_wp2
        obtain ⟨z0, z1, z2, z3, z4, z5, z6, z7⟩ := (Bx.put8 HX9.out (.int .i64 0) (.int .i64 0) (.int .i64 0) (.int .i64 0) (.slice none 0 0) (.slice none 0 0) (.slice none 0 0) (.int .i64 0)).c8
        unfold put8B at z0 z1 z2 z3 z4 z5 z6 z7 HBZ
        exact bodyPost_ret (v := .tuple #[.agg #[.int .i64 0, .int .i64 0, .int .i64 0, .int .i64 0, .slice none 0 0, .slice none 0 0, .slice none 0 0, .int .i64 0], .bool false]) (by simp [results, Try.results11, go_sem, z0, z1, z2, z3, z4, z5, z6, z7]) rfl (RbP.no RES.out HBZ.out)
      | some mt =>
        obtain ⟨ms, t⟩ := mt
        have ha := rdAll_back _ _ _ hall
        have ht0 : t ≠ 0 := fun e => ha.2.2.1 (List.length_eq_zero_iff.1 (by rw [← ha.2.2.2.1]; exact e))
        have htl : t ≤ N - p := by have h9 := ha.2.1; rw [List.length_drop, HLEN.out] at h9; exact h9
        have HMS : Hid (ms.length ≤ 200 ∧ ∀ s ∈ ms, s.size ≤ 3000) := ⟨ha.2.2.2.2.1, ha.2.2.2.2.2⟩
        obtain ⟨x, hx⟩ : ∃ x, x = (rdNum (bs.drop (p + t))).1 := ⟨_, rfl⟩
        have hxm : x ≤ 1099511627776 := by have h9 := rdNum_len (bs.drop (p + t)); rw [← hx] at h9; exact h9.2.1
        have RIS := RBl_is H1.out H2.out hn7 HK5.out hall
        rw [← hx, ← HR.out] at RIS
        have HRI : Hid (R = if shwB (blkOf ns ms (x : Int)) = bs then some (blkOf ns ms (x : Int)) else none) := RIS
        have HXE : Hid (x = (rdNum (bs.drop (p + t))).1) := hx
        have htz : ((t : Int) == 0) = false := by simp; omega
        have HTE : Hid (Calls Try.prog 31 #[.slice (some ⟨dB, p, none⟩) (N - p) (cap - p)] wA fun e w' => ∃ u, e = .returned (.tuple #[u, .int .i64 (t : Int)]) ∧ OwnS w' wA.heap.size u ms ∧ Below wA.heap.size wA w') := (l1ReadTexts_any _ (bs.drop p) wA HRR.out).mono fun e w' h => by
          rw [hall] at h
          exact h
        clear hall ha hx RIS HRR
        go_wp2_with fail
        refine HTE.out.mono ?_
        rintro e wC ⟨u3, rfl, ou, hb3⟩
        have HB3 : Hid (Below W2.heap.size W2 wC) := HB.out.trans (hb3.mono HB.out.size)
        have HBC : Hid (Below wA.heap.size wA wC) := hb3
        have HOU : Hid (OwnS wC wA.heap.size u3 ms) := ou
        obtain ⟨ua, uc, hu⟩ := ownSlX ou
        obtain ⟨un, hun⟩ : ∃ un, un = ms.length := ⟨_, rfl⟩
        rw [← hun] at hu
        subst hu
        clear ou hb3 HTE hun
        go_upto_region 19 with fail
        go_cut [12] (fun v12 W => v12 = .int .i64 (x : Int) ∧ W = wC)
        case first =>
          by_cases hcq : cap = p + t
          · have hE := HRe.out (p + t) (by omega)
            have HEN2 : Hid (∀ V a, Calls Try.prog 30 #[.slice a 0 0] V fun e w' => e = .returned (.tuple #[.int .i64 (x : Int), .int .i64 0]) ∧ w' = V) := fun V a => by
              have h9 := specReadNumber_any _ _ V (hE V a).1
              have h8 := HXE.out
              rw [(hE V a).2.1] at h8 h9
              rw [show x = 0 from h8]
              exact h9
            have hNq : N = p + t := by omega
            subst hcq
            subst hNq
            clear hE HRp HRe HRD
            go_wp2_with fail
            refine (HEN2.out _ _).mono ?_
            rintro e w4 ⟨rfl, rfl⟩
            go_wp2
            go_meet
            case rel => exact ⟨rfl, rfl⟩
          · have hqc : p + t < cap := by omega
            obtain ⟨z, hz⟩ : ∃ z, z = (rdNum (bs.drop (p + t))).2 := ⟨_, rfl⟩
            have HRN : Hid (Calls Try.prog 30 #[.slice (some ⟨dB, p + t, none⟩) (N - (p + t)) (cap - (p + t))] wC fun e w' => e = .returned (.tuple #[.int .i64 (x : Int), .int .i64 (z : Int)]) ∧ w' = wC) := by rw [HXE.out, hz]; exact specReadNumber_any _ _ wC (HRp.out (p + t) (by omega) hqc wC HB3.out)
            clear hz
            go_wp2_with fail
            refine HRN.out.mono ?_
            rintro e w4 ⟨rfl, hw4⟩
            subst hw4
            go_wp2
            go_meet
            case rel => exact ⟨rfl, rfl⟩
        case rest =>
          obtain ⟨rfl, hwc⟩ := hcut
          have hwc2 := hwc.symm
          subst hwc2
          clear hwc
          obtain ⟨l0, hl0⟩ : ∃ l0, l0 = gI ns 0 := ⟨_, rfl⟩
          obtain ⟨l1, hl1⟩ : ∃ l1, l1 = gI ns 1 := ⟨_, rfl⟩
          obtain ⟨l2, hl2⟩ : ∃ l2, l2 = gI ns 2 := ⟨_, rfl⟩
          obtain ⟨l3, hl3⟩ : ∃ l3, l3 = gI ns 3 := ⟨_, rfl⟩
          have HL03 : Hid (l0 = gI ns 0 ∧ l1 = gI ns 1 ∧ l2 = gI ns 2 ∧ l3 = gI ns 3) := ⟨hl0, hl1, hl2, hl3⟩
          have HGE : Hid (∀ i (hi : i < ns.length), gI ns i = ns[i]) := fun i hi => by simp [gI, hi]
          have HLC : Hid (∀ V, Below wC.heap.size wC V → V.cell? ⟨lg, 0, none⟩ = some (.int .i64 l0) ∧ V.cell? ⟨lg, 1, none⟩ = some (.int .i64 l1) ∧ V.cell? ⟨lg, 2, none⟩ = some (.int .i64 l2) ∧ V.cell? ⟨lg, 3, none⟩ = some (.int .i64 l3)) := fun V hb => by
            have h9 := HOC.out V (HBC.out.trans (hb.mono HBC.out.size))
            have h8 := HNK.out
            rw [hl0, hl1, hl2, hl3, HGE.out 0 (by omega), HGE.out 1 (by omega), HGE.out 2 (by omega), HGE.out 3 (by omega)]
            exact ⟨h9 0 (by omega), h9 1 (by omega), h9 2 (by omega), h9 3 (by omega)⟩
          clear hl0 hl1 hl2 hl3 hcp hpc htl ht0 htz hp
          obtain ⟨hk5, hk19'⟩ := hk19
          have hi0 : (0 : Int) < (k : Int) := by omega
          have hi1 : (1 : Int) < (k : Int) := by omega
          have hi2 : (2 : Int) < (k : Int) := by omega
          have hi3 : (3 : Int) < (k : Int) := by omega
          have hj0 : 0 < k := by omega
          have hj1 : 1 < k := by omega
          have hj2 : 2 < k := by omega
          have hj3 : 3 < k := by omega
          go_wp2_with fail
          refine wp_region_noPanic ?_
          refine wp_region_held_drew (S := fun w' => w'.cell? ⟨lg, 0, none⟩ = some (.int .i64 l0) ∧ w'.cell? ⟨lg, 1, none⟩ = some (.int .i64 l1) ∧ w'.cell? ⟨lg, 2, none⟩ = some (.int .i64 l2) ∧ w'.cell? ⟨lg, 3, none⟩ = some (.int .i64 l3)) (by kernel_rfl) (HLC.out _ (Below.refl _ _).drew) (fun h0 => ?_)
          refine tkG 0 69 h0 ?_
          try simp only [Act.put, List.setIfInBounds_toArray, List.set_cons_zero, List.set_cons_succ]
          refine tkG 1 70 h0 ?_
          try simp only [Act.put, List.setIfInBounds_toArray, List.set_cons_zero, List.set_cons_succ]
          refine tkG 2 71 h0 ?_
          try simp only [Act.put, List.setIfInBounds_toArray, List.set_cons_zero, List.set_cons_succ]
          refine tkG 3 72 h0 ?_
          try simp only [Act.put, List.setIfInBounds_toArray, List.set_cons_zero, List.set_cons_succ]
          refine tkG 4 73 h0 ?_
          try simp only [Act.put, List.setIfInBounds_toArray, List.set_cons_zero, List.set_cons_succ]
          refine tkG 5 74 h0 ?_
          try simp only [Act.put, List.setIfInBounds_toArray, List.set_cons_zero, List.set_cons_succ]
          refine tkG 6 75 h0 ?_
          try simp only [Act.put, List.setIfInBounds_toArray, List.set_cons_zero, List.set_cons_succ]
          refine tkG 7 76 h0 ?_
          try simp only [Act.put, List.setIfInBounds_toArray, List.set_cons_zero, List.set_cons_succ]
          refine tkG 8 77 h0 ?_
          try simp only [Act.put, List.setIfInBounds_toArray, List.set_cons_zero, List.set_cons_succ]
          refine tkG 9 78 h0 ?_
          try simp only [Act.put, List.setIfInBounds_toArray, List.set_cons_zero, List.set_cons_succ]
          refine tkG 10 79 h0 ?_
          try simp only [Act.put, List.setIfInBounds_toArray, List.set_cons_zero, List.set_cons_succ]
          refine tkG 11 80 h0 ?_
          try simp only [Act.put, List.setIfInBounds_toArray, List.set_cons_zero, List.set_cons_succ]
          refine tkG 12 81 h0 ?_
          try simp only [Act.put, List.setIfInBounds_toArray, List.set_cons_zero, List.set_cons_succ]
          refine tkG 13 82 h0 ?_
          try simp only [Act.put, List.setIfInBounds_toArray, List.set_cons_zero, List.set_cons_succ]
          refine tkG 14 83 h0 ?_
          try simp only [Act.put, List.setIfInBounds_toArray, List.set_cons_zero, List.set_cons_succ]
          refine tkG 15 84 h0 ?_
          try simp only [Act.put, List.setIfInBounds_toArray, List.set_cons_zero, List.set_cons_succ]
          refine wpAnyH_ready (rs := [16]) (by kernel_rfl) (by simp) ?_
          refine AllReadyH.cons rfl (fun K hK => ?_) AllReadyH.nil
          go_simp
          have HSA := HLC.out ((wC.alloc (.cells #[.int .i64 0, .int .i64 0, .int .i64 0, .int .i64 0, .slice none 0 0, .slice none 0 0, .slice none 0 0, .int .i64 0] 32)).drew) ((below1 wC _).drew)
          have Q0 : Bx ((wC.alloc (.cells #[.int .i64 0, .int .i64 0, .int .i64 0, .int .i64 0, .slice none 0 0, .slice none 0 0, .slice none 0 0, .int .i64 0] 32)).drew) wC.heap.size 32 #[.int .i64 0, .int .i64 0, .int .i64 0, .int .i64 0, .slice none 0 0, .slice none 0 0, .slice none 0 0, .int .i64 0] := (bx_new wC _ _).below (Below.refl _ _).drew
          obtain ⟨g0, g1, g2, g3, g4, g5, g6, g7⟩ := Q0.c8
          obtain ⟨e0, e1, e2, e3, e4, e5, e6, e7⟩ := Q0.f8
          have HSB := HLC.out ((wC.alloc (.cells #[.int .i64 l0, .int .i64 l1, .int .i64 l2, .int .i64 l3, .slice none 0 0, .slice none 0 0, .slice ua un uc, .int .i64 (x : Int)] 32)).drew) ((below1 wC _).drew)
          have L0 : BkBx wC ((wC.alloc (.cells #[.int .i64 l0, .int .i64 l1, .int .i64 l2, .int .i64 l3, .slice none 0 0, .slice none 0 0, .slice ua un uc, .int .i64 (x : Int)] 32)).drew) wC.heap.size #[.int .i64 l0, .int .i64 l1, .int .i64 l2, .int .i64 l3, .slice none 0 0, .slice none 0 0, .slice ua un uc, .int .i64 (x : Int)] ⟨⟨l2, l3, [], []⟩, .slice none 0 0, .slice none 0 0⟩ := ⟨Nat.le_refl _, (bx_new wC _ _).below (Below.refl _ _).drew, ownPr_zero _ _ _ _, (below1 wC _).drew⟩
          refine hK.out _ _ (HSA) (fun h1 => ?_)
          clear hK K
          try simp only [Act.put, List.setIfInBounds_toArray, List.set_cons_zero, List.set_cons_succ]
          clear h0
          refine wpAnyH_ready (rs := [17]) (by kernel_rfl) (by simp) ?_
          refine AllReadyH.cons rfl (fun K hK => ?_) AllReadyH.nil
          go_simp
          clear g0 g1 g2 g3 g4 g5 g6 g7 e0 e1 e2 e3 e4 e5 e6 e7 Q0
          refine hK.out _ _ (HSB) (fun h2 => ?_)
          clear hK K
          try simp only [Act.put, List.setIfInBounds_toArray, List.set_cons_zero, List.set_cons_succ]
          clear h1
          refine wpAnyH_done (by kernel_rfl) ?_ _
          refine NoPanic.normal ?_
          obtain ⟨gb, hgb⟩ : ∃ gb, gb = wC.heap.size := ⟨_, rfl⟩
          rw [← hgb] at L0
          rw [← hgb]
          have HGB : Hid (gb = wC.heap.size) := hgb
          revert L0
          generalize (wC.alloc (.cells #[.int .i64 l0, .int .i64 l1, .int .i64 l2, .int .i64 l3, .slice none 0 0, .slice none 0 0, .slice ua un uc, .int .i64 (x : Int)] 32)).drew = W5
          intro L0
          clear hgb HSA HSB
          go_wp2
          obtain ⟨Rr, hRr⟩ : ∃ Rr, Rr = ns.drop 5 := ⟨_, rfl⟩
          have HRr : Hid (Rr = ns.drop 5) := hRr
          have HRL : Hid (Rr.length = 2 * n) := by unfold Hid; rw [hRr, List.length_drop, HNK.out, H4.out]; omega
          clear hRr
          go_loopw [15] (fun ii wr => ∃ (i j : Nat) (a : Option Addr) (n1 c : Nat) (b : Option Addr) (n2 d : Nat) (sv tg : List Int), i ≤ k ∧ j ≤ n ∧ Hid (i = 5 + 2 * j) ∧ ii = .int .i64 i ∧ BkBx wC wr gb #[.int .i64 l0, .int .i64 l1, .int .i64 l2, .int .i64 l3, .slice a n1 c, .slice b n2 d, .slice ua un uc, .int .i64 (x : Int)] ⟨⟨l2, l3, sv, tg⟩, .slice a n1 c, .slice b n2 d⟩ ∧ Hid (sv = (evn Rr).take j) ∧ Hid (tg = (odd Rr).take j)) (fun ii _ => k - (intOf ii).toNat)
          case atStart => exact ⟨5, 0, none, 0, 0, none, 0, 0, [], [], by omega, by omega, rfl, rfl, L0, rfl, rfl⟩
          case round =>
            obtain ⟨i, j, a, n1, c, b, n2, d, sv, tg, hik, hjn, HI, rfl, L, HSV, HTG⟩ := hrel
            clear L0
            by_cases hlt : i < k
            · have hjl : j < n := by have h8 := HI.out; have h9 := H4.out; omega
              have HIL : Hid (i < ns.length ∧ i + 1 < ns.length) := by have h7 := HNK.out; have h8 := HI.out; have h9 := H4.out; unfold Hid; omega
              obtain ⟨xx, hxx⟩ : ∃ xx, xx = ns[i]'HIL.out.1 := ⟨_, rfl⟩
              obtain ⟨yy, hyy⟩ : ∃ yy, yy = ns[i + 1]'HIL.out.2 := ⟨_, rfl⟩
              have hev := evn_get Rr j (by rw [HRL.out]; omega)
              have e1 : Rr[2 * j]? = some xx := by rw [HRr.out, drop_get, ← HI.out, hxx, List.getElem?_eq_getElem HIL.out.1]
              have e2 : Rr[2 * j + 1]? = some yy := by rw [HRr.out, drop_get, ← Nat.add_assoc, ← HI.out, hyy, List.getElem?_eq_getElem HIL.out.2]
              have HSV2 : Hid (sv ++ [xx] = (evn Rr).take (j + 1)) := by unfold Hid; rw [HSV.out]; exact (take_one (hev.1.trans e1)).symm
              have HTG2 : Hid (tg ++ [yy] = (odd Rr).take (j + 1)) := by unfold Hid; rw [HTG.out]; exact (take_one (hev.2.trans e2)).symm
              have HLN : Hid (sv.length ≤ 1000 ∧ tg.length ≤ 1000) := by unfold Hid; rw [HSV.out, HTG.out, List.length_take, List.length_take]; omega
              obtain ⟨i1, hi1e⟩ : ∃ i1, i1 = i + 1 := ⟨_, rfl⟩
              have HLKrs : Hid (∀ V, Below wC.heap.size wC V → V.cell? ⟨lg, i, none⟩ = some (.int .i64 xx)) := fun V hb => by rw [hxx]; exact HOC.out V (HBC.out.trans (hb.mono HBC.out.size)) i HIL.out.1
              have HLKrt : Hid (∀ V, Below wC.heap.size wC V → V.cell? ⟨lg, i1, none⟩ = some (.int .i64 yy)) := fun V hb => by rw [hi1e, hyy]; exact HOC.out V (HBC.out.trans (hb.mono HBC.out.size)) (i + 1) HIL.out.2
              have hi4 : (i : Int) < (k : Int) := by omega
              have hi5 : (i1 : Int) < (k : Int) := by have h8 := HI.out; have h9 := H4.out; omega
              have hi6 : IntKind.i64.wrap ((i : Int) + 1) = (i1 : Int) := by rw [IntKind.wrap_i64]; omega
              have hi7 : (0 : Int) ≤ (i1 : Int) := by omega
              have HI8 : Hid (i + 2 ≤ k) := by unfold Hid; omega
              clear hxx hyy hev e1 e2 hi1e
              go_wp2_with fail
              refine wp_region_noPanic ?_
              refine wp_region_held_drew (S := fun w' : World => w'.cell? ⟨lg, i, none⟩ = some (.int .i64 xx)) (by kernel_rfl) (HLKrs.out _ L.drew.bel) (fun hS => ?_)
              replace L := L.drew
              refine tkG 0 91 hS ?_
              try simp only [Act.put, List.setIfInBounds_toArray, List.set_cons_zero, List.set_cons_succ]
              refine tkG 1 92 hS ?_
              try simp only [Act.put, List.setIfInBounds_toArray, List.set_cons_zero, List.set_cons_succ]
              refine tkG 3 94 hS ?_
              try simp only [Act.put, List.setIfInBounds_toArray, List.set_cons_zero, List.set_cons_succ]
              refine tkG 4 95 hS ?_
              try simp only [Act.put, List.setIfInBounds_toArray, List.set_cons_zero, List.set_cons_succ]
              refine tkG 5 96 hS ?_
              try simp only [Act.put, List.setIfInBounds_toArray, List.set_cons_zero, List.set_cons_succ]
              refine tkG 6 97 hS ?_
              try simp only [Act.put, List.setIfInBounds_toArray, List.set_cons_zero, List.set_cons_succ]
              revert hS
              revert L
              generalize wr.drew = V
              intro L hS
              refine wpAnyH_ready (rs := [2, 7]) (by kernel_rfl) (by simp) ?_
              refine AllReadyH.cons rfl (fun K hK => ?_) ?_
              have c := L.box.cell 4 rfl
              go_simp
              clear c hS
              refine hK.out _ _ (HLKrs.out _ L.bel) (fun hS => ?_)
              clear hK K
              try simp only [List.setIfInBounds_toArray, List.set_cons_zero, List.set_cons_succ]
              clear hS
              refine listed_asX (l' := #[true, true, true, true, true, true, true, false, false, false, false, false]) (by kernel_rfl) ?_
              revert L
              revert V
              refine ?rs2
              rotate_left 1
              refine AllReadyH.cons rfl (fun K hK => ?_) AllReadyH.nil
              refine step_objX rfl 98 rfl (.cells #[.int .i64 xx] 2) (.slice (some ⟨V.heap.size, 0, none⟩) 1 1) (by go_simp; (try rfl)) ?_
              have hrow := rdI_one V xx
              replace L := L.below (below1 V (.cells #[.int .i64 xx] 2))
              clear hS
              refine hK.out _ _ (HLKrs.out _ L.bel) (fun hS => ?_)
              clear hK K
              try simp only [List.setIfInBounds_toArray, List.set_cons_zero, List.set_cons_succ]
              revert hS
              revert hrow
              revert L
              generalize V.alloc (.cells #[.int .i64 xx] 2) = V1
              generalize V.heap.size = rb
              intro L hrow hS
              clear hS
              refine listed_asX (l' := #[true, true, false, true, true, true, true, true, false, false, false, false]) (by kernel_rfl) ?_
              revert hrow
              revert L
              revert rb
              revert V1
              clear V
              refine ?rs7
              rotate_left 1
              intro V0 L
              have hS : (fun w' : World => w'.cell? ⟨lg, i, none⟩ = some (.int .i64 xx)) V0 := HLKrs.out _ L.bel
              refine wpAnyH_ready (rs := [7]) (by kernel_rfl) (by simp) ?_
              refine AllReadyH.cons rfl (fun K hK => ?_) AllReadyH.nil
              refine step_objX rfl 98 rfl (.cells #[.int .i64 xx] 2) (.slice (some ⟨V0.heap.size, 0, none⟩) 1 1) (by go_simp; (try rfl)) ?_
              have hrow := rdI_one V0 xx
              replace L := L.below (below1 V0 (.cells #[.int .i64 xx] 2))
              clear hS
              refine hK.out _ _ (HLKrs.out _ L.bel) (fun hS => ?_)
              clear hK K
              try simp only [List.setIfInBounds_toArray, List.set_cons_zero, List.set_cons_succ]
              revert hS
              revert hrow
              revert L
              generalize V0.alloc (.cells #[.int .i64 xx] 2) = V1
              generalize V0.heap.size = rb
              intro L hrow hS
              clear hS
              refine listed_asX (l' := #[true, true, true, true, true, true, true, true, false, false, false, false]) (by kernel_rfl) ?_
              revert hrow
              revert L
              revert rb
              revert V1
              clear V0
              refine ?rs27
              rotate_left 1
              intro V0 rb L hrow
              have hS : (fun w' : World => w'.cell? ⟨lg, i, none⟩ = some (.int .i64 xx)) V0 := HLKrs.out _ L.bel
              refine wpAnyH_ready (rs := [2]) (by kernel_rfl) (by simp) ?_
              refine AllReadyH.cons rfl (fun K hK => ?_) AllReadyH.nil
              have c := L.box.cell 4 rfl
              go_simp
              clear c hS
              refine hK.out _ _ (HLKrs.out _ L.bel) (fun hS => ?_)
              clear hK K
              try simp only [List.setIfInBounds_toArray, List.set_cons_zero, List.set_cons_succ]
              clear hS
              refine listed_asX (l' := #[true, true, true, true, true, true, true, true, false, false, false, false]) (by kernel_rfl) ?_
              revert hrow
              revert L
              revert rb
              revert V0
              exact ?rs27
              intro V0 rb L hrow
              have hS : (fun w' : World => w'.cell? ⟨lg, i, none⟩ = some (.int .i64 xx)) V0 := HLKrs.out _ L.bel
              refine wpAnyH_ready (rs := [8]) (by kernel_rfl) (by simp) ?_
              refine AllReadyH.cons rfl (fun K hK => ?_) AllReadyH.nil
              refine step_intsX rfl 99 rfl _ _ rfl wC.heap.size (.slice a n1 c) (.slice (some ⟨rb, 0, none⟩) 1 1) sv [xx] rfl rfl L.own.sv hrow (by have := HLN.out; simp; omega) L.bel.size ?_
              intro vz V1 hoz hgz haz
              replace L := L.app hoz hgz haz
              obtain ⟨za, zc, hvz⟩ := ownSlX hoz
              clear hoz hgz haz hrow hS
              generalize (sv ++ [xx]).length = zn at hvz
              subst hvz
              refine hK.out _ _ (HLKrs.out _ L.bel) (fun hS => ?_)
              clear hK K
              try simp only [List.setIfInBounds_toArray, List.set_cons_zero, List.set_cons_succ]
              refine tkG 9 100 hS ?_
              try simp only [Act.put, List.setIfInBounds_toArray, List.set_cons_zero, List.set_cons_succ]
              refine tkG 10 101 hS ?_
              try simp only [Act.put, List.setIfInBounds_toArray, List.set_cons_zero, List.set_cons_succ]
              clear hS
              refine listed_asX (l' := #[true, true, true, true, true, true, true, true, true, true, true, false]) (by kernel_rfl) ?_
              revert L
              revert zc
              revert zn
              revert za
              revert V1
              clear V0
              refine ?rs278
              rotate_left 1
              intro V0 za zn zc L
              have hS : (fun w' : World => w'.cell? ⟨lg, i, none⟩ = some (.int .i64 xx)) V0 := HLKrs.out _ L.bel
              refine wpAnyH_ready (rs := [11]) (by kernel_rfl) (by simp) ?_
              refine AllReadyH.cons rfl (fun K hK => ?_) AllReadyH.nil
              have c := L.box.cell 4 rfl
              have f := L.box.fz 4
              have L2 := L.set 4 (.slice za zn zc)
              simp only [List.setIfInBounds_toArray, List.set_cons_zero, List.set_cons_succ] at L2
              go_simp
              clear c f L hS
              have L := L2
              clear L2
              refine hK.out _ _ (HLKrs.out _ L.bel) (fun hS => ?_)
              clear hK K
              try simp only [List.setIfInBounds_toArray, List.set_cons_zero, List.set_cons_succ]
              revert hS
              revert L
              generalize V0.setCell ⟨gb, 4, none⟩ (.slice za zn zc) = V1
              intro L hS
              clear hS
              refine listed_asX (l' := #[true, true, true, true, true, true, true, true, true, true, true, true]) (by kernel_rfl) ?_
              revert L
              revert zc
              revert zn
              revert za
              revert V1
              clear V0
              refine ?rs27811
              rotate_left 1
              intro V0 za zn zc L
              have hS : (fun w' : World => w'.cell? ⟨lg, i, none⟩ = some (.int .i64 xx)) V0 := HLKrs.out _ L.bel
              refine wpAnyH_done (by kernel_rfl) ?_ _
              refine NoPanic.normal ?_
              clear hS
              go_wp2_with fail
              refine wp_region_noPanic ?_
              refine wp_region_held_drew (S := fun w' : World => w'.cell? ⟨lg, i1, none⟩ = some (.int .i64 yy)) (by kernel_rfl) (HLKrt.out _ L.drew.bel) (fun hS => ?_)
              replace L := L.drew
              refine tkG 0 102 hS ?_
              try simp only [Act.put, List.setIfInBounds_toArray, List.set_cons_zero, List.set_cons_succ]
              refine tkG 1 103 hS ?_
              try simp only [Act.put, List.setIfInBounds_toArray, List.set_cons_zero, List.set_cons_succ]
              refine tkG 3 105 hS ?_
              try simp only [Act.put, List.setIfInBounds_toArray, List.set_cons_zero, List.set_cons_succ]
              refine tkG 4 106 hS ?_
              try simp only [Act.put, List.setIfInBounds_toArray, List.set_cons_zero, List.set_cons_succ]
              refine tkG 5 107 hS ?_
              try simp only [Act.put, List.setIfInBounds_toArray, List.set_cons_zero, List.set_cons_succ]
              refine tkG 6 108 hS ?_
              try simp only [Act.put, List.setIfInBounds_toArray, List.set_cons_zero, List.set_cons_succ]
              refine tkG 7 109 hS ?_
              try simp only [Act.put, List.setIfInBounds_toArray, List.set_cons_zero, List.set_cons_succ]
              revert hS
              revert L
              generalize V0.drew = V
              intro L hS
              refine wpAnyH_ready (rs := [2, 8]) (by kernel_rfl) (by simp) ?_
              refine AllReadyH.cons rfl (fun K hK => ?_) ?_
              have c := L.box.cell 5 rfl
              go_simp
              clear c hS
              refine hK.out _ _ (HLKrt.out _ L.bel) (fun hS => ?_)
              clear hK K
              try simp only [List.setIfInBounds_toArray, List.set_cons_zero, List.set_cons_succ]
              clear hS
              refine listed_asX (l' := #[true, true, true, true, true, true, true, true, false, false, false, false, false]) (by kernel_rfl) ?_
              revert L
              revert V
              refine ?rt2
              rotate_left 1
              refine AllReadyH.cons rfl (fun K hK => ?_) AllReadyH.nil
              refine step_objX rfl 110 rfl (.cells #[.int .i64 yy] 2) (.slice (some ⟨V.heap.size, 0, none⟩) 1 1) (by go_simp; (try rfl)) ?_
              have hrow := rdI_one V yy
              replace L := L.below (below1 V (.cells #[.int .i64 yy] 2))
              clear hS
              refine hK.out _ _ (HLKrt.out _ L.bel) (fun hS => ?_)
              clear hK K
              try simp only [List.setIfInBounds_toArray, List.set_cons_zero, List.set_cons_succ]
              revert hS
              revert hrow
              revert L
              generalize V.alloc (.cells #[.int .i64 yy] 2) = V1
              generalize V.heap.size = rb
              intro L hrow hS
              clear hS
              refine listed_asX (l' := #[true, true, false, true, true, true, true, true, true, false, false, false, false]) (by kernel_rfl) ?_
              revert hrow
              revert L
              revert rb
              revert V1
              clear V
              refine ?rt8
              rotate_left 1
              intro V0 L
              have hS : (fun w' : World => w'.cell? ⟨lg, i1, none⟩ = some (.int .i64 yy)) V0 := HLKrt.out _ L.bel
              refine wpAnyH_ready (rs := [8]) (by kernel_rfl) (by simp) ?_
              refine AllReadyH.cons rfl (fun K hK => ?_) AllReadyH.nil
              refine step_objX rfl 110 rfl (.cells #[.int .i64 yy] 2) (.slice (some ⟨V0.heap.size, 0, none⟩) 1 1) (by go_simp; (try rfl)) ?_
              have hrow := rdI_one V0 yy
              replace L := L.below (below1 V0 (.cells #[.int .i64 yy] 2))
              clear hS
              refine hK.out _ _ (HLKrt.out _ L.bel) (fun hS => ?_)
              clear hK K
              try simp only [List.setIfInBounds_toArray, List.set_cons_zero, List.set_cons_succ]
              revert hS
              revert hrow
              revert L
              generalize V0.alloc (.cells #[.int .i64 yy] 2) = V1
              generalize V0.heap.size = rb
              intro L hrow hS
              clear hS
              refine listed_asX (l' := #[true, true, true, true, true, true, true, true, true, false, false, false, false]) (by kernel_rfl) ?_
              revert hrow
              revert L
              revert rb
              revert V1
              clear V0
              refine ?rt28
              rotate_left 1
              intro V0 rb L hrow
              have hS : (fun w' : World => w'.cell? ⟨lg, i1, none⟩ = some (.int .i64 yy)) V0 := HLKrt.out _ L.bel
              refine wpAnyH_ready (rs := [2]) (by kernel_rfl) (by simp) ?_
              refine AllReadyH.cons rfl (fun K hK => ?_) AllReadyH.nil
              have c := L.box.cell 5 rfl
              go_simp
              clear c hS
              refine hK.out _ _ (HLKrt.out _ L.bel) (fun hS => ?_)
              clear hK K
              try simp only [List.setIfInBounds_toArray, List.set_cons_zero, List.set_cons_succ]
              clear hS
              refine listed_asX (l' := #[true, true, true, true, true, true, true, true, true, false, false, false, false]) (by kernel_rfl) ?_
              revert hrow
              revert L
              revert rb
              revert V0
              exact ?rt28
              intro V0 rb L hrow
              have hS : (fun w' : World => w'.cell? ⟨lg, i1, none⟩ = some (.int .i64 yy)) V0 := HLKrt.out _ L.bel
              refine wpAnyH_ready (rs := [9]) (by kernel_rfl) (by simp) ?_
              refine AllReadyH.cons rfl (fun K hK => ?_) AllReadyH.nil
              refine step_intsX rfl 111 rfl _ _ rfl wC.heap.size (.slice b n2 d) (.slice (some ⟨rb, 0, none⟩) 1 1) tg [yy] rfl rfl L.own.tg hrow (by have := HLN.out; simp; omega) L.bel.size ?_
              intro vz V1 hoz hgz haz
              replace L := L.apt hoz hgz haz
              obtain ⟨ya, yc, hvz⟩ := ownSlX hoz
              clear hoz hgz haz hrow hS
              generalize (tg ++ [yy]).length = yn at hvz
              subst hvz
              refine hK.out _ _ (HLKrt.out _ L.bel) (fun hS => ?_)
              clear hK K
              try simp only [List.setIfInBounds_toArray, List.set_cons_zero, List.set_cons_succ]
              refine tkG 10 112 hS ?_
              try simp only [Act.put, List.setIfInBounds_toArray, List.set_cons_zero, List.set_cons_succ]
              refine tkG 11 113 hS ?_
              try simp only [Act.put, List.setIfInBounds_toArray, List.set_cons_zero, List.set_cons_succ]
              clear hS
              refine listed_asX (l' := #[true, true, true, true, true, true, true, true, true, true, true, true, false]) (by kernel_rfl) ?_
              revert L
              revert yc
              revert yn
              revert ya
              revert V1
              clear V0
              refine ?rt289
              rotate_left 1
              intro V0 ya yn yc L
              have hS : (fun w' : World => w'.cell? ⟨lg, i1, none⟩ = some (.int .i64 yy)) V0 := HLKrt.out _ L.bel
              refine wpAnyH_ready (rs := [12]) (by kernel_rfl) (by simp) ?_
              refine AllReadyH.cons rfl (fun K hK => ?_) AllReadyH.nil
              have c := L.box.cell 5 rfl
              have f := L.box.fz 5
              have L2 := L.set 5 (.slice ya yn yc)
              simp only [List.setIfInBounds_toArray, List.set_cons_zero, List.set_cons_succ] at L2
              go_simp
              clear c f L hS
              have L := L2
              clear L2
              refine hK.out _ _ (HLKrt.out _ L.bel) (fun hS => ?_)
              clear hK K
              try simp only [List.setIfInBounds_toArray, List.set_cons_zero, List.set_cons_succ]
              revert hS
              revert L
              generalize V0.setCell ⟨gb, 5, none⟩ (.slice ya yn yc) = V1
              intro L hS
              clear hS
              refine listed_asX (l' := #[true, true, true, true, true, true, true, true, true, true, true, true, true]) (by kernel_rfl) ?_
              revert L
              revert yc
              revert yn
              revert ya
              revert V1
              clear V0
              refine ?rt28912
              rotate_left 1
              intro V0 ya yn yc L
              have hS : (fun w' : World => w'.cell? ⟨lg, i1, none⟩ = some (.int .i64 yy)) V0 := HLKrt.out _ L.bel
              refine wpAnyH_done (by kernel_rfl) ?_ _
              refine NoPanic.normal ?_
              clear hS
              go_wp2
              go_roundw
              case rel => exact ⟨i + 2, j + 1, za, zn, zc, ya, yn, yc, sv ++ [xx], tg ++ [yy], HI8.out, by omega, by unfold Hid; rw [HI.out]; omega, by go_num, L, HSV2, HTG2⟩
              case measure => have h8 := HI8.out; simp [intOf]; omega
            · have hke : i = k := by omega
              have hje : j = n := by have h8 := HI.out; have h9 := H4.out; omega
              have hEO := evn_odd n Rr HRL.out
              have HSV3 : Hid (sv = evn Rr) := by unfold Hid; rw [HSV.out, hje, List.take_of_length_le (by omega)]
              have HTG3 : Hid (tg = odd Rr) := by unfold Hid; rw [HTG.out, hje, List.take_of_length_le (by omega)]
              obtain ⟨B, hB⟩ : ∃ B, B = blkOf ns ms (x : Int) := ⟨_, rfl⟩
              have HBB : Hid (B = ⟨l0, l1, ⟨l2, l3, sv, tg⟩, ms, (x : Int)⟩) := by
                unfold Hid
                rw [hB, HL03.out.1, HL03.out.2.1, HL03.out.2.2.1, HL03.out.2.2.2, HSV3.out, HTG3.out, HRr.out]; rfl
              rw [← hB] at HRI
              have HMO : Hid (OwnS wr W2.heap.size (.slice ua un uc) ms) := by
                have h9 := OwnS.below HOU.out L.bel
                exact h9.mono (Nat.le_trans HB.out.size (Nat.le_refl _))
              have HBR : Hid (Below W2.heap.size W2 wr) := HB3.out.trans (L.bel.mono HB3.out.size)
              have HPR : Hid (OwnPr wr W2.heap.size ⟨⟨l2, l3, sv, tg⟩, .slice a n1 c, .slice b n2 d⟩) := L.own.mono HB3.out.size
              have HOB : Hid (OwnBl wr W2.heap.size ⟨⟨l0, l1, ⟨l2, l3, sv, tg⟩, ms, (x : Int)⟩, .slice a n1 c, .slice b n2 d, .slice ua un uc⟩) :=
                ⟨HPR.out, HMO.out, fun q h1 h2 => rows_apart HPR.out.sv HMO.out (by decide) q h1 h2, fun q h1 h2 => rows_apart HPR.out.tg HMO.out (by decide) q h1 h2⟩
              obtain ⟨TT, hTT⟩ : ∃ TT, TT = shwB B := ⟨_, rfl⟩
              have HTT : Hid (TT = shwB B) := hTT
              obtain ⟨S9, hS9⟩ : ∃ S9 : ByteArray, S9 = ⟨TT.toArray⟩ := ⟨_, rfl⟩
              have HSH : Hid (Calls Try.prog 7 #[.agg #[.int .i64 l0, .int .i64 l1, .int .i64 l2, .int .i64 l3, .slice a n1 c, .slice b n2 d, .slice ua un uc, .int .i64 (x : Int)]] wr fun e w' => e = .returned (.string S9) ∧ Below wr.heap.size wr w') := by
                have h9 := specShow_any ⟨⟨l0, l1, ⟨l2, l3, sv, tg⟩, ms, (x : Int)⟩, .slice a n1 c, .slice b n2 d, .slice ua un uc⟩ wr HOB.out.rd (fun s hs => by have := HMS.out.2 s hs; omega)
                rw [hS9, hTT, HBB.out]
                exact h9
              obtain ⟨p0, p1, p2, p3, p4, p5, p6, p7⟩ := L.box.c8
              have HLB : Hid (Bx wr gb 32 #[.int .i64 l0, .int .i64 l1, .int .i64 l2, .int .i64 l3, .slice a n1 c, .slice b n2 d, .slice ua un uc, .int .i64 (x : Int)]) := L.box
              have HBN : Hid (bs ≠ []) := fun e => by
                have h8 := rdK_back _ _ _ HK5.out
                have h9 := h8.2.2.2.1
                rw [e] at h9
                have h7 := numL_ne ns (by have := HNK.out; omega) h8.2.2.2.2
                have h6 := h8.2.1
                simp only [List.length_nil] at h9
                exact h7 (List.length_eq_zero_iff.1 (by omega))
              clear hke hje hEO hB hTT
              cases hq : decide (TT = bs) with
              | false =>
                have RES : Hid (R = none) := by unfold Hid; rw [HRI.out, if_neg (by rw [← HTT.out]; exact of_decide_eq_false hq)]
                have hne : (!S9.toList == s.toList) = true := by rw [hS9]; exact str_neq false (by rw [← HNE.out]; exact hq)
                clear hq hS9 L
                go_wp2_with fail
                refine HSH.out.mono ?_
                rintro e w3 ⟨rfl, hb3⟩
                have HB9 : Hid (Below W2.heap.size W2 w3) := HBR.out.trans (hb3.mono HBR.out.size)
                have X9 := HX.out.below HB9.out
                have HBZ : Hid (Below w.heap.size w (put8B w3 w.heap.size (.int .i64 0) (.int .i64 0) (.int .i64 0) (.int .i64 0) (.slice none 0 0) (.slice none 0 0) (.slice none 0 0) (.int .i64 0))) := put8B_below (HB2.out.trans (HB9.out.mono HB2.out.size)) (Nat.le_refl _)
                clear p0 p1 p2 p3 p4 p5 p6 p7
                have HX9 : Hid (Bx w3 w.heap.size 32 #[.int .i64 0, .int .i64 0, .int .i64 0, .int .i64 0, .slice none 0 0, .slice none 0 0, .slice none 0 0, .int .i64 0]) := X9
                obtain ⟨c0, c1, c2, c3, c4, c5, c6, c7⟩ := X9.c8
                obtain ⟨f0, f1, f2, f3, f4, f5, f6, f7⟩ := X9.f8
                clear X9
                go_wp2
                obtain ⟨z0, z1, z2, z3, z4, z5, z6, z7⟩ := (Bx.put8 HX9.out (.int .i64 0) (.int .i64 0) (.int .i64 0) (.int .i64 0) (.slice none 0 0) (.slice none 0 0) (.slice none 0 0) (.int .i64 0)).c8
                unfold put8B at z0 z1 z2 z3 z4 z5 z6 z7 HBZ
                exact bodyPost_ret (v := .tuple #[.agg #[.int .i64 0, .int .i64 0, .int .i64 0, .int .i64 0, .slice none 0 0, .slice none 0 0, .slice none 0 0, .int .i64 0], .bool false]) (by simp [results, Try.results11, go_sem, z0, z1, z2, z3, z4, z5, z6, z7]) rfl (RbP.no RES.out HBZ.out)
              | true =>
                have RES : Hid (R = some B) := by unfold Hid; rw [HRI.out, if_pos (by rw [← HTT.out]; exact of_decide_eq_true hq)]
                have hne : (!S9.toList == s.toList) = false := by rw [hS9]; exact str_neq true (by rw [← HNE.out]; exact hq)
                have hem : s.toList.isEmpty = false := str_isE (by rw [← HNE.out]; exact HBN.out)
                clear hq hS9 L
                go_wp2_with fail
                refine HSH.out.mono ?_
                rintro e w3 ⟨rfl, hb3⟩
                have HB9 : Hid (Below W2.heap.size W2 w3) := HBR.out.trans (hb3.mono HBR.out.size)
                have X9 := HX.out.below HB9.out
                have HO9 : Hid (OwnBl w3 W2.heap.size ⟨⟨l0, l1, ⟨l2, l3, sv, tg⟩, ms, (x : Int)⟩, .slice a n1 c, .slice b n2 d, .slice ua un uc⟩) := OwnBl.below HOB.out hb3
                have HLB9 : Hid (Bx w3 gb 32 #[.int .i64 l0, .int .i64 l1, .int .i64 l2, .int .i64 l3, .slice a n1 c, .slice b n2 d, .slice ua un uc, .int .i64 (x : Int)]) := HLB.out.below hb3
                have HBZ : Hid (Below w.heap.size w (put8B w3 w.heap.size (.int .i64 l0) (.int .i64 l1) (.int .i64 l2) (.int .i64 l3) (.slice a n1 c) (.slice b n2 d) (.slice ua un uc) (.int .i64 (x : Int)))) := put8B_below (HB2.out.trans (HB9.out.mono HB2.out.size)) (Nat.le_refl _)
                have HOZ : Hid (OwnBl (put8B w3 w.heap.size (.int .i64 l0) (.int .i64 l1) (.int .i64 l2) (.int .i64 l3) (.slice a n1 c) (.slice b n2 d) (.slice ua un uc) (.int .i64 (x : Int))) w.heap.size ⟨⟨l0, l1, ⟨l2, l3, sv, tg⟩, ms, (x : Int)⟩, .slice a n1 c, .slice b n2 d, .slice ua un uc⟩) := (HO9.out.touch put8B_touch (fun q hq e => by have h1 := (HO9.out.bound hq).1; have h2 := List.mem_singleton.1 e; have h3 := HG.out; omega)).mono (Nat.le_of_lt HG.out)
                clear p0 p1 p2 p3 p4 p5 p6 p7 hb3
                obtain ⟨p0, p1, p2, p3, p4, p5, p6, p7⟩ := HLB9.out.c8
                have HX9 : Hid (Bx w3 w.heap.size 32 #[.int .i64 0, .int .i64 0, .int .i64 0, .int .i64 0, .slice none 0 0, .slice none 0 0, .slice none 0 0, .int .i64 0]) := X9
                obtain ⟨c0, c1, c2, c3, c4, c5, c6, c7⟩ := X9.c8
                obtain ⟨f0, f1, f2, f3, f4, f5, f6, f7⟩ := X9.f8
                clear X9
                go_wp2
                obtain ⟨z0, z1, z2, z3, z4, z5, z6, z7⟩ := (Bx.put8 HX9.out (.int .i64 l0) (.int .i64 l1) (.int .i64 l2) (.int .i64 l3) (.slice a n1 c) (.slice b n2 d) (.slice ua un uc) (.int .i64 (x : Int))).c8
                unfold put8B at z0 z1 z2 z3 z4 z5 z6 z7 HBZ HOZ
                exact bodyPost_ret (v := .tuple #[.agg #[.int .i64 l0, .int .i64 l1, .int .i64 l2, .int .i64 l3, .slice a n1 c, .slice b n2 d, .slice ua un uc, .int .i64 (x : Int)], .bool true]) (by simp [results, Try.results11, go_sem, z0, z1, z2, z3, z4, z5, z6, z7]) rfl ⟨⟨⟨l0, l1, ⟨l2, l3, sv, tg⟩, ms, (x : Int)⟩, .slice a n1 c, .slice b n2 d, .slice ua un uc⟩, by rw [RES.out]; rfl, by rw [RES.out, HBB.out]; rfl, HOZ.out, HBZ.out⟩
end Go.Proofs.Ytckidhcknibceaa
