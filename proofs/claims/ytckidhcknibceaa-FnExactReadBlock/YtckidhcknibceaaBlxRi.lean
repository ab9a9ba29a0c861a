/- The contract of the program's ReadBlock. -/
-- UNF Gen
import Derived.Test.YtckidhcknibceaaBlxBk
import Derived.Test.YtckidhcknibceaaBlxRs
namespace Go.Proofs.Ytckidhcknibceaa
open Go.RowKit
set_option maxHeartbeats 8000000 in
set_option maxRecDepth 100000 in
theorem implReadBlock_any (s : ByteArray) (w : World) (hs : s.size ≤ 1048576) :
    Calls Try.prog 12 #[.string s] w fun e w' => RbP w (RBl s.data.toList) e w' := by
  obtain ⟨bs, hbs⟩ : ∃ bs, bs = s.data.toList := ⟨_, rfl⟩
  have hcv := conv_bytes (w.alloc (.cells #[.int .i64 0, .int .i64 0, .int .i64 0, .int .i64 0, .slice none 0 0, .slice none 0 0, .slice none 0 0, .int .i64 0] 32)) s
  have hrd := bytes_rd (w.alloc (.cells #[.int .i64 0, .int .i64 0, .int .i64 0, .int .i64 0, .slice none 0 0, .slice none 0 0, .slice none 0 0, .int .i64 0] 32)) s (by unfold maxLen; omega)
  have hbl := bytes_below (w.alloc (.cells #[.int .i64 0, .int .i64 0, .int .i64 0, .int .i64 0, .slice none 0 0, .slice none 0 0, .slice none 0 0, .int .i64 0] 32)) s
  rw [← hbs] at hrd
  have X1 := bx_new w 32 #[.int .i64 0, .int .i64 0, .int .i64 0, .int .i64 0, .slice none 0 0, .slice none 0 0, .slice none 0 0, .int .i64 0]
  have B1 := below1 w (.cells #[.int .i64 0, .int .i64 0, .int .i64 0, .int .i64 0, .slice none 0 0, .slice none 0 0, .slice none 0 0, .int .i64 0] 32)
  obtain ⟨W2, hW2⟩ : ∃ W2, W2 = Lib.bytesWorld (w.alloc (.cells #[.int .i64 0, .int .i64 0, .int .i64 0, .int .i64 0, .slice none 0 0, .slice none 0 0, .slice none 0 0, .int .i64 0] 32)) 5 s := ⟨_, rfl⟩
  rw [← hW2] at hcv hrd hbl
  have HX : Hid (Bx W2 w.heap.size 32 #[.int .i64 0, .int .i64 0, .int .i64 0, .int .i64 0, .slice none 0 0, .slice none 0 0, .slice none 0 0, .int .i64 0]) := X1.below hbl
  have HB2 : Hid (Below w.heap.size w W2) := B1.trans (hbl.mono B1.size)
  have HG : Hid (w.heap.size < W2.heap.size) := by have h1 := hbl.size; simp at h1; unfold Hid; omega
  generalize grownCap (w.alloc (.cells #[.int .i64 0, .int .i64 0, .int .i64 0, .int .i64 0, .slice none 0 0, .slice none 0 0, .slice none 0 0, .int .i64 0] 32)) s.size 0 5 = cap at hcv hrd
  generalize (w.alloc (.cells #[.int .i64 0, .int .i64 0, .int .i64 0, .int .i64 0, .slice none 0 0, .slice none 0 0, .slice none 0 0, .int .i64 0] 32)).heap.size = dB at hcv hrd
  generalize s.size = N at hcv hrd
  have HBK : Hid (Calls Try.prog 32 #[.pointer (some ⟨W2.heap.size, 0, none⟩)] (W2.alloc (.cells #[.slice (some ⟨dB, 0, none⟩) N cap, .int .i64 0] 59)) fun e w' => BkP W2 (W2.alloc (.cells #[.slice (some ⟨dB, 0, none⟩) N cap, .int .i64 0] 59)) W2.heap.size (.slice (some ⟨dB, 0, none⟩) N cap) bs e w') := block_any W2 _ W2.heap.size _ bs (cur_new hrd)
  obtain ⟨R, hR⟩ : ∃ R, R = RBl bs := ⟨_, rfl⟩
  have HR : Hid (R = RBl bs) := hR
  rw [← hbs, ← hR]
  have HXC : Hid (Bx (W2.alloc (.cells #[.slice (some ⟨dB, 0, none⟩) N cap, .int .i64 0] 59)) w.heap.size 32 #[.int .i64 0, .int .i64 0, .int .i64 0, .int .i64 0, .slice none 0 0, .slice none 0 0, .slice none 0 0, .int .i64 0]) := HX.out.below (below1 _ _)
  have HBC : Hid (Below w.heap.size w (W2.alloc (.cells #[.slice (some ⟨dB, 0, none⟩) N cap, .int .i64 0] 59))) := HB2.out.alloc HB2.out.size _
  have HSC : Hid ((W2.alloc (.cells #[.slice (some ⟨dB, 0, none⟩) N cap, .int .i64 0] 59)).heap.size = W2.heap.size + 1) := by unfold Hid; simp
  clear X1 B1 hbl hbs hR hW2 hrd
  go_enter Try.func12, Try.ntmps12
  go_wp2_with fail
  refine HBK.out.mono ?_
  rintro e w4 ⟨p, Y, ok, rfl, oY, hc4, ht4, hf, hy⟩
  obtain ⟨b, vs, vt, vm⟩ := Y
  obtain ⟨a1, k1, a2, k2, hs1, hs2⟩ := oY.pr.slices
  obtain ⟨a3, k3, hs3⟩ := ownSlX oY.mo
  simp only [BlX.pr] at hs1 hs2 hs3 oY hy
  generalize b.p.sv.length = n1 at hs1
  generalize b.p.tg.length = n2 at hs2
  generalize b.mo.length = n3 at hs3
  subst hs1 hs2 hs3
  have X4 : Bx w4 w.heap.size 32 #[.int .i64 0, .int .i64 0, .int .i64 0, .int .i64 0, .slice none 0 0, .slice none 0 0, .slice none 0 0, .int .i64 0] := HXC.out.touch ht4 (by have := HG.out; simp; omega)
  have B4 : Below w.heap.size w w4 := ht4.below HBC.out (fun q hq => by have h1 := List.mem_singleton.1 hq; have h2 := HG.out; omega)
  have OY : Hid (OwnBl (w4.alloc (.cells #[.int .i64 b.vw, .int .i64 b.pa, .int .i64 b.p.vw, .int .i64 b.p.nm, .slice a1 n1 k1, .slice a2 n2 k2, .slice a3 n3 k3, .int .i64 b.sv] 32)) (W2.heap.size + 1) ⟨b, .slice a1 n1 k1, .slice a2 n2 k2, .slice a3 n3 k3⟩) := by have h1 := OwnBl.below oY (below1 w4 (.cells #[.int .i64 b.vw, .int .i64 b.pa, .int .i64 b.p.vw, .int .i64 b.p.nm, .slice a1 n1 k1, .slice a2 n2 k2, .slice a3 n3 k3, .int .i64 b.sv] 32)); rw [HSC.out] at h1; exact h1
  have HC5 : Hid (Cur W2 (w4.alloc (.cells #[.int .i64 b.vw, .int .i64 b.pa, .int .i64 b.p.vw, .int .i64 b.p.nm, .slice a1 n1 k1, .slice a2 n2 k2, .slice a3 n3 k3, .int .i64 b.sv] 32)) W2.heap.size (.slice (some ⟨dB, 0, none⟩) N cap) bs p) := hc4.alloc _
  have X9 : Bx (w4.alloc (.cells #[.int .i64 b.vw, .int .i64 b.pa, .int .i64 b.p.vw, .int .i64 b.p.nm, .slice a1 n1 k1, .slice a2 n2 k2, .slice a3 n3 k3, .int .i64 b.sv] 32)) w.heap.size 32 #[.int .i64 0, .int .i64 0, .int .i64 0, .int .i64 0, .slice none 0 0, .slice none 0 0, .slice none 0 0, .int .i64 0] := X4.below (below1 _ _)
  have HB9 : Hid (Below w.heap.size w (w4.alloc (.cells #[.int .i64 b.vw, .int .i64 b.pa, .int .i64 b.p.vw, .int .i64 b.p.nm, .slice a1 n1 k1, .slice a2 n2 k2, .slice a3 n3 k3, .int .i64 b.sv] 32))) := B4.alloc B4.size _
  have Y9 := bx_new w4 32 #[.int .i64 b.vw, .int .i64 b.pa, .int .i64 b.p.vw, .int .i64 b.p.nm, .slice a1 n1 k1, .slice a2 n2 k2, .slice a3 n3 k3, .int .i64 b.sv]
  have HF : Hid (ok = false → rdB bs = none) := hf
  have HY : Hid (ok = true → rdB bs = some (b, p)) := hy
  clear oY hc4 ht4 hf hy X4 B4 HBK
  cases ok with
  | false =>
    have RES : Hid (R = none) := HR.out.trans (RBl_none (HF.out rfl))
    clear Y9
    have HX9 : Hid (Bx (w4.alloc (.cells #[.int .i64 b.vw, .int .i64 b.pa, .int .i64 b.p.vw, .int .i64 b.p.nm, .slice a1 n1 k1, .slice a2 n2 k2, .slice a3 n3 k3, .int .i64 b.sv] 32)) w.heap.size 32 #[.int .i64 0, .int .i64 0, .int .i64 0, .int .i64 0, .slice none 0 0, .slice none 0 0, .slice none 0 0, .int .i64 0]) := X9
    obtain ⟨c0, c1, c2, c3, c4, c5, c6, c7⟩ := X9.c8
    obtain ⟨f0, f1, f2, f3, f4, f5, f6, f7⟩ := X9.f8
    have HBZ : Hid (Below w.heap.size w (put8B (w4.alloc (.cells #[.int .i64 b.vw, .int .i64 b.pa, .int .i64 b.p.vw, .int .i64 b.p.nm, .slice a1 n1 k1, .slice a2 n2 k2, .slice a3 n3 k3, .int .i64 b.sv] 32)) w.heap.size (.int .i64 0) (.int .i64 0) (.int .i64 0) (.int .i64 0) (.slice none 0 0) (.slice none 0 0) (.slice none 0 0) (.int .i64 0))) := put8B_below HB9.out (Nat.le_refl _)
    clear X9
    go_wp2
    obtain ⟨z0, z1, z2, z3, z4, z5, z6, z7⟩ := (Bx.put8 HX9.out (.int .i64 0) (.int .i64 0) (.int .i64 0) (.int .i64 0) (.slice none 0 0) (.slice none 0 0) (.slice none 0 0) (.int .i64 0)).c8
    unfold put8B at z0 z1 z2 z3 z4 z5 z6 z7 HBZ
    exact bodyPost_ret (v := .tuple #[.agg #[.int .i64 0, .int .i64 0, .int .i64 0, .int .i64 0, .slice none 0 0, .slice none 0 0, .slice none 0 0, .int .i64 0], .bool false]) (by simp [results, Try.results12, go_sem, z0, z1, z2, z3, z4, z5, z6, z7]) rfl (RbP.no RES.out HBZ.out)
  | true =>
    have HRD : Hid (rdB bs = some (b, p)) := HY.out rfl
    have HPL : Hid (p ≤ bs.length) := HC5.out.le
    obtain ⟨N2, hN2⟩ : ∃ N2, N2 = bs.length := ⟨_, rfl⟩
    have HLF : Hid (Calls Try.prog 33 #[.pointer (some ⟨W2.heap.size, 0, none⟩)] (w4.alloc (.cells #[.int .i64 b.vw, .int .i64 b.pa, .int .i64 b.p.vw, .int .i64 b.p.nm, .slice a1 n1 k1, .slice a2 n2 k2, .slice a3 n3 k3, .int .i64 b.sv] 32)) fun e w' => e = .returned (.int .i64 ((N2 : Int) - (p : Int))) ∧ ∃ q, w' = (w4.alloc (.cells #[.int .i64 b.vw, .int .i64 b.pa, .int .i64 b.p.vw, .int .i64 b.p.nm, .slice a1 n1 k1, .slice a2 n2 k2, .slice a3 n3 k3, .int .i64 b.sv] 32)).drewN q) := by rw [hN2]; exact left_any W2 _ _ _ bs p HC5.out
    have HNN : Hid (N2 = bs.length) := hN2
    clear hN2 HF HY
    have HXQ : Hid (Bx (w4.alloc (.cells #[.int .i64 b.vw, .int .i64 b.pa, .int .i64 b.p.vw, .int .i64 b.p.nm, .slice a1 n1 k1, .slice a2 n2 k2, .slice a3 n3 k3, .int .i64 b.sv] 32)) w.heap.size 32 #[.int .i64 0, .int .i64 0, .int .i64 0, .int .i64 0, .slice none 0 0, .slice none 0 0, .slice none 0 0, .int .i64 0]) := X9
    have HYQ : Hid (Bx (w4.alloc (.cells #[.int .i64 b.vw, .int .i64 b.pa, .int .i64 b.p.vw, .int .i64 b.p.nm, .slice a1 n1 k1, .slice a2 n2 k2, .slice a3 n3 k3, .int .i64 b.sv] 32)) w4.heap.size 32 #[.int .i64 b.vw, .int .i64 b.pa, .int .i64 b.p.vw, .int .i64 b.p.nm, .slice a1 n1 k1, .slice a2 n2 k2, .slice a3 n3 k3, .int .i64 b.sv]) := Y9
    clear X9 Y9
    obtain ⟨w5, hw5⟩ : ∃ w5, w5 = w4.alloc (.cells #[.int .i64 b.vw, .int .i64 b.pa, .int .i64 b.p.vw, .int .i64 b.p.nm, .slice a1 n1 k1, .slice a2 n2 k2, .slice a3 n3 k3, .int .i64 b.sv] 32) := ⟨_, rfl⟩
    rw [← hw5] at HLF HXQ HYQ OY HB9
    have HW5 : Hid (w4.alloc (.cells #[.int .i64 b.vw, .int .i64 b.pa, .int .i64 b.p.vw, .int .i64 b.p.nm, .slice a1 n1 k1, .slice a2 n2 k2, .slice a3 n3 k3, .int .i64 b.sv] 32) = w5) := hw5.symm
    clear hw5 HC5
    go_wp2_with fail
    rw [HW5.out]
    refine HLF.out.mono ?_
    rintro e w6 ⟨rfl, q, rfl⟩
    have X9 : Bx (w5.drewN q) w.heap.size 32 #[.int .i64 0, .int .i64 0, .int .i64 0, .int .i64 0, .slice none 0 0, .slice none 0 0, .slice none 0 0, .int .i64 0] := HXQ.out
    have Y9 : Bx (w5.drewN q) w4.heap.size 32 #[.int .i64 b.vw, .int .i64 b.pa, .int .i64 b.p.vw, .int .i64 b.p.nm, .slice a1 n1 k1, .slice a2 n2 k2, .slice a3 n3 k3, .int .i64 b.sv] := HYQ.out
    have HBQ : Hid (Below w.heap.size w (w5.drewN q)) := below_drewN HB9.out q
    have HOQ : Hid (OwnBl (w5.drewN q) (W2.heap.size + 1) ⟨b, .slice a1 n1 k1, .slice a2 n2 k2, .slice a3 n3 k3⟩) := OwnBl.below OY.out (below_drewN (Below.refl _ _) q)
    clear HB9 OY HLF HW5 HXQ HYQ
    generalize w5.drewN q = w6 at X9 Y9 HBQ HOQ ⊢
    have HB9 := HBQ
    by_cases hpe : p < N2
    · have RES : Hid (R = none) := by
        have h1 := HRD.out
        have h2 := HNN.out
        unfold Hid
        rw [HR.out]
        unfold RBl
        rw [h1]
        simp only
        rw [if_neg (by omega)]
      have hd : (0 : Int) < (N2 : Int) - (p : Int) := by omega
      clear Y9
      have HX9 : Hid (Bx w6 w.heap.size 32 #[.int .i64 0, .int .i64 0, .int .i64 0, .int .i64 0, .slice none 0 0, .slice none 0 0, .slice none 0 0, .int .i64 0]) := X9
      obtain ⟨c0, c1, c2, c3, c4, c5, c6, c7⟩ := X9.c8
      obtain ⟨f0, f1, f2, f3, f4, f5, f6, f7⟩ := X9.f8
      have HBZ : Hid (Below w.heap.size w (put8B w6 w.heap.size (.int .i64 0) (.int .i64 0) (.int .i64 0) (.int .i64 0) (.slice none 0 0) (.slice none 0 0) (.slice none 0 0) (.int .i64 0))) := put8B_below HB9.out (Nat.le_refl _)
      clear X9
      go_wp2
      obtain ⟨z0, z1, z2, z3, z4, z5, z6, z7⟩ := (Bx.put8 HX9.out (.int .i64 0) (.int .i64 0) (.int .i64 0) (.int .i64 0) (.slice none 0 0) (.slice none 0 0) (.slice none 0 0) (.int .i64 0)).c8
      unfold put8B at z0 z1 z2 z3 z4 z5 z6 z7 HBZ
      exact bodyPost_ret (v := .tuple #[.agg #[.int .i64 0, .int .i64 0, .int .i64 0, .int .i64 0, .slice none 0 0, .slice none 0 0, .slice none 0 0, .int .i64 0], .bool false]) (by simp [results, Try.results12, go_sem, z0, z1, z2, z3, z4, z5, z6, z7]) rfl (RbP.no RES.out HBZ.out)
    · have hpl := HPL.out
      rw [← HNN.out] at hpl
      have hpN : p = N2 := by omega
      have RES : Hid (R = some b) := by
        have h1 := HRD.out
        have h2 := HNN.out
        unfold Hid
        rw [HR.out]
        unfold RBl
        rw [h1]
        simp only
        rw [if_pos (by omega)]
      have hd : ¬ (0 : Int) < (N2 : Int) - (p : Int) := by omega
      have HX9 : Hid (Bx w6 w.heap.size 32 #[.int .i64 0, .int .i64 0, .int .i64 0, .int .i64 0, .slice none 0 0, .slice none 0 0, .slice none 0 0, .int .i64 0]) := X9
      obtain ⟨c0, c1, c2, c3, c4, c5, c6, c7⟩ := X9.c8
      obtain ⟨f0, f1, f2, f3, f4, f5, f6, f7⟩ := X9.f8
      obtain ⟨r0, r1, r2, r3, r4, r5, r6, r7⟩ := Y9.c8
      have HBZ : Hid (Below w.heap.size w (put8B w6 w.heap.size (.int .i64 b.vw) (.int .i64 b.pa) (.int .i64 b.p.vw) (.int .i64 b.p.nm) (.slice a1 n1 k1) (.slice a2 n2 k2) (.slice a3 n3 k3) (.int .i64 b.sv))) := put8B_below HB9.out (Nat.le_refl _)
      have HOZ : Hid (OwnBl (put8B w6 w.heap.size (.int .i64 b.vw) (.int .i64 b.pa) (.int .i64 b.p.vw) (.int .i64 b.p.nm) (.slice a1 n1 k1) (.slice a2 n2 k2) (.slice a3 n3 k3) (.int .i64 b.sv)) w.heap.size ⟨b, .slice a1 n1 k1, .slice a2 n2 k2, .slice a3 n3 k3⟩) := (HOQ.out.touch put8B_touch (fun q hq e => by have h1 := (HOQ.out.bound hq).1; have h2 := List.mem_singleton.1 e; have h3 := HG.out; omega)).mono (by have h3 := HG.out; omega)
      clear X9 Y9 hpN hpl hpe
      go_wp2
      obtain ⟨z0, z1, z2, z3, z4, z5, z6, z7⟩ := (Bx.put8 HX9.out (.int .i64 b.vw) (.int .i64 b.pa) (.int .i64 b.p.vw) (.int .i64 b.p.nm) (.slice a1 n1 k1) (.slice a2 n2 k2) (.slice a3 n3 k3) (.int .i64 b.sv)).c8
      unfold put8B at z0 z1 z2 z3 z4 z5 z6 z7 HBZ HOZ
      exact bodyPost_ret (v := .tuple #[.agg #[.int .i64 b.vw, .int .i64 b.pa, .int .i64 b.p.vw, .int .i64 b.p.nm, .slice a1 n1 k1, .slice a2 n2 k2, .slice a3 n3 k3, .int .i64 b.sv], .bool true]) (by simp [results, Try.results12, go_sem, z0, z1, z2, z3, z4, z5, z6, z7]) rfl ⟨⟨b, .slice a1 n1 k1, .slice a2 n2 k2, .slice a3 n3 k3⟩, by rw [RES.out]; rfl, by rw [RES.out]; rfl, HOZ.out, HBZ.out⟩
end Go.Proofs.Ytckidhcknibceaa
