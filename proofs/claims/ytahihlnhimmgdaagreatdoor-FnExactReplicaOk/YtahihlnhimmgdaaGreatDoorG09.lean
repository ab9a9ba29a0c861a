/- The contracts of the law's measure and copy of a slice of texts. The contracts of the laws' own helpers over blocks: measured, copied. -/
import Derived.Test.YtahihlnhimmgdaaGreatDoorStrBase
import Derived.Test.YtahihlnhimmgdaaGreatDoorG08
import Derived.OpenShut
namespace Go.Proofs.YtahihlnhimmgdaaGreatDoor
open Go.RowKit
theorem made_SV (n : Nat) : (madeCells #[Value.string ⟨#[]⟩] n).toList = SV (List.replicate n ⟨#[]⟩) := by
  rw [toList_madeCells_one]
  simp [SV]
theorem cpS_step (bs : List ByteArray) (z : ByteArray) (k : Nat) (h : k < bs.length) : (bs.take k ++ List.replicate (bs.length - k) z).set k bs[k] = bs.take (k + 1) ++ List.replicate (bs.length - (k + 1)) z := by
  have hl : (bs.take k).length = k := by rw [List.length_take]; omega
  rw [List.set_append_right _ _ (by omega), hl, Nat.sub_self]
  obtain ⟨m, hm⟩ : ∃ m, bs.length - k = m + 1 := ⟨bs.length - k - 1, by omega⟩
  have hm2 : bs.length - (k + 1) = m := by omega
  rw [hm, hm2, List.replicate_succ, List.set_cons_zero, List.take_succ_eq_append_getElem h, List.append_assoc, List.singleton_append]
theorem cpS_len (bs : List ByteArray) (z : ByteArray) (k : Nat) (h : k ≤ bs.length) : (bs.take k ++ List.replicate (bs.length - k) z).length = bs.length := by
  rw [List.length_append, List.length_take, List.length_replicate]; omega

set_option maxHeartbeats 400000 in
set_option maxRecDepth 100000 in
theorem toTexts_any (v : Value) (bs : List ByteArray) (w : World) (hr : RdS w v bs) (hs : bs.length ≤ 1073741824) :
    Calls Tryz.prog 155 #[v] w fun e w' => ∃ u, e = .returned u ∧ OwnS w' w.heap.size u bs ∧ Below w.heap.size w w' := by
  obtain ⟨i0, hi, hz0, hz1, hz2⟩ := info_parts Tryz.info9
  obtain ⟨a, cap, rfl, hl, hm, hA⟩ := hr
  go_enter Tryz.func155, Tryz.ntmps155
  go_wp2_with (at_make; (refine wpList_make_full _ rfl _ _ 32 rfl w.heap.size 9 i0 (.string ⟨#[]⟩) 1 Tryz.underlying32 hi hz0 hz1 .i64 .i64 (bs.length : Int) (bs.length : Int) bs.length rfl rfl rfl rfl ?c1 ?c2 ?c3 ?_))
  case c1 => rw [hz2]; omega
  case c2 => unfold maxLen; omega
  case c3 => omega
  intro w1 ho1 hg1
  rw [made_SV] at ho1
  have hb1 : Below w.heap.size w w1 := (Below.refl _ _).grown hg1 (Nat.le_refl _) (fun k hk => by cases hk)
  clear hg1
  go_wp2
  go_loopw [4] (fun i wr => ∃ k : Nat, k ≤ bs.length ∧ i = .int .i64 k ∧ wr.ownsRow w.heap.size 9 1 (.slice (some ⟨w.heap.size, 0, none⟩) bs.length bs.length) bs.length (SV (bs.take k ++ List.replicate (bs.length - k) ⟨#[]⟩)) ∧ Below w.heap.size w wr) (fun i _ => bs.length - (intOf i).toNat)
  case atStart => exact ⟨0, Nat.zero_le _, rfl, by simpa using ho1, hb1⟩
  case round =>
    obtain ⟨k, hk, rfl, ho, hb⟩ := hrel
    clear ho1 hb1
    by_cases hlt : k < bs.length
    · obtain ⟨b, off, ha, hc⟩ : ∃ b off, a = some ⟨b, off, none⟩ ∧ wr.cell? ⟨b, off + k, none⟩ = some (.string bs[k]) := by
        rcases hA with h | ⟨b, off, ha, hc⟩
        · subst h; simp at hlt
        · exact ⟨b, off, ha, by rw [hb.cell (World.block_lt_of_cell? w _ (hc k hlt))]; exact hc k hlt⟩
      rw [ha]
      have hc2 := (ho.cellAt k (by omega)).trans (SV_get _ k (by rw [cpS_len bs _ k hk]; exact hlt))
      have hf := ho.frozenAt k
      have R1 := (ho.stored k (.string bs[k])).1
      rw [← SV_set, cpS_step bs _ k hlt] at R1
      have R2 : Below w.heap.size w (wr.setCell ⟨w.heap.size, k, none⟩ (.string bs[k])) := hb.setCell (Nat.le_refl _) _
      have H1 : Hid (World.ownsRow _ _ _ _ _ _ _) := R1
      clear ho hA hb R1
      go_wp2
      go_roundw
      case rel => exact ⟨k + 1, by omega, by go_num, H1.out, R2⟩
      case measure => simp [intOf]; omega
    · have hke : k = bs.length := by omega
      subst hke
      have H1 : OwnS wr w.heap.size (.slice (some ⟨w.heap.size, 0, none⟩) bs.length bs.length) bs := by unfold OwnS; simpa using ho
      clear ho
      go_wp2
      go_ret
      exact ⟨_, rfl, H1, hb⟩

/-- What the measure leaves: a number below 0, or the list and each of its texts are small. -/
def SzPost (w : World) (ss : List ByteArray) (e : Ending) (w' : World) : Prop :=
  w' = w ∧ ∃ x : Int, e = .returned (.int .i64 x) ∧ (x < 0 ∨ 0 ≤ x ∧ ss.length ≤ 1048576 ∧ ∀ s ∈ ss, s.size ≤ 1048576)
set_option maxHeartbeats 400000 in
set_option maxRecDepth 100000 in
theorem sz_gen (v : Value) (ss : List ByteArray) (lf : Int) (w : World) (hr : RdS w v ss) (hsz : ∀ s ∈ ss, s.size ≤ maxLen) (hlf0 : 0 ≤ lf) (hlf1 : lf ≤ 1048576) :
    Calls Tryz.prog 154 #[v, .int .i64 lf] w fun e w' => SzPost w ss e w' := by
  obtain ⟨a, cap, rfl, hl, hm, hA⟩ := hr
  unfold maxLen at hm
  have HSZ : Hid (∀ s ∈ ss, s.size ≤ maxLen) := hsz
  clear hsz
  by_cases hbig : lf < (ss.length : Int)
  · clear hA
    have hbn : lf - (ss.length : Int) < 0 := by omega
    go_enter Tryz.func154, Tryz.ntmps154
    go_wp2
    go_ret
    exact ⟨rfl, -1, rfl, .inl (by omega)⟩
  · have hbn : ¬ lf - (ss.length : Int) < 0 := by omega
    go_enter Tryz.func154, Tryz.ntmps154
    go_wp2
    go_loop [1, 5] (fun l i => ∃ (k : Nat) (x : Int), k ≤ ss.length ∧ i = .int .i64 k ∧ l = .int .i64 x ∧ 0 ≤ x ∧ x ≤ 1048576 ∧ Hid (∀ j (h : j < ss.length), j < k → ss[j].size ≤ 1048576)) (fun _ i => ss.length - (intOf i).toNat)
    case atStart => exact ⟨0, _, Nat.zero_le _, rfl, rfl, by omega, by omega, fun j h h' => by omega⟩
    case round =>
      obtain ⟨k, x, hk, rfl, rfl, hx0, hx1, HJ⟩ := hrel
      by_cases hlt : k < ss.length
      · obtain ⟨b, off, ha, hc⟩ : ∃ b off, a = some ⟨b, off, none⟩ ∧ w.cell? ⟨b, off + k, none⟩ = some (.string ss[k]) := by
          rcases hA with h | ⟨b, off, ha, hc⟩
          · subst h; simp at hlt
          · exact ⟨b, off, ha, hc k hlt⟩
        rw [ha]
        have hsk := HSZ.out _ (List.getElem_mem hlt)
        unfold maxLen at hsk
        obtain ⟨s, hs⟩ : ∃ s, s = ss[k] := ⟨_, rfl⟩
        rw [← hs] at hc hsk
        have Hs : Hid (s = ss[k]) := hs
        clear hs hA
        by_cases hneg : x - (s.size : Int) < 0
        · go_wp2
          go_ret
          exact ⟨rfl, -1, rfl, .inl (by omega)⟩
        · go_wp2
          go_round
          case rel =>
            refine ⟨k + 1, _, by omega, by go_num, rfl, by omega, by omega, fun j h h' => ?_⟩
            by_cases hjk : j = k
            · subst hjk; rw [← Hs.out]; omega
            · exact HJ.out j h (by omega)
          case measure => simp [intOf]; omega
      · have hke : k = ss.length := by omega
        subst hke
        go_wp2
        go_ret
        refine ⟨rfl, x, rfl, .inr ⟨hx0, by omega, fun s hs => ?_⟩⟩
        obtain ⟨j, hj, rfl⟩ := List.getElem_of_mem hs
        exact HJ.out j hj hj
theorem sz_any (v : Value) (ss : List ByteArray) (w : World) (hr : RdS w v ss) (hsz : ∀ s ∈ ss, s.size ≤ maxLen) :
    Calls Tryz.prog 154 #[v, .int .i64 1048576] w fun e w' => SzPost w ss e w' := sz_gen v ss 1048576 w hr hsz (by omega) (by omega)
set_option maxHeartbeats 400000 in
set_option maxRecDepth 100000 in
theorem szTexts_at (v : Value) (ss : List ByteArray) (lf : Int) (w : World) (hr : RdS w v ss) (hsz : ∀ s ∈ ss, s.size ≤ maxLen) (hlf0 : 0 ≤ lf) (hlf1 : lf ≤ 1048576) :
    Calls Tryz.prog 154 #[v, .int .i64 lf] w fun e w' => w' = w ∧ ∃ x : Int, e = .returned (.int .i64 x) ∧ (x = -1 ∨ 0 ≤ x ∧ x + ss.length ≤ lf ∧ ∀ s ∈ ss, s.size ≤ 1048576) := by
  obtain ⟨a, cap, rfl, hl, hm, hA⟩ := hr
  unfold maxLen at hm
  have HSZ : Hid (∀ s ∈ ss, s.size ≤ maxLen) := hsz
  clear hsz
  by_cases hbig : lf < (ss.length : Int)
  · clear hA
    have hbn : lf - (ss.length : Int) < 0 := by omega
    go_enter Tryz.func154, Tryz.ntmps154
    go_wp2
    go_ret
    exact ⟨rfl, -1, rfl, .inl rfl⟩
  · have hbn : ¬ lf - (ss.length : Int) < 0 := by omega
    go_enter Tryz.func154, Tryz.ntmps154
    go_wp2
    go_loop [1, 5] (fun l i => ∃ (k : Nat) (x : Int), k ≤ ss.length ∧ i = .int .i64 k ∧ l = .int .i64 x ∧ 0 ≤ x ∧ x ≤ lf - (ss.length : Int) ∧ Hid (∀ j (h : j < ss.length), j < k → ss[j].size ≤ 1048576)) (fun _ i => ss.length - (intOf i).toNat)
    case atStart => exact ⟨0, _, Nat.zero_le _, rfl, rfl, by omega, by omega, fun j h h' => by omega⟩
    case round =>
      obtain ⟨k, x, hk, rfl, rfl, hx0, hx1, HJ⟩ := hrel
      by_cases hlt : k < ss.length
      · obtain ⟨b, off, ha, hc⟩ : ∃ b off, a = some ⟨b, off, none⟩ ∧ w.cell? ⟨b, off + k, none⟩ = some (.string ss[k]) := by
          rcases hA with h | ⟨b, off, ha, hc⟩
          · subst h; simp at hlt
          · exact ⟨b, off, ha, hc k hlt⟩
        rw [ha]
        have hsk := HSZ.out _ (List.getElem_mem hlt)
        unfold maxLen at hsk
        obtain ⟨s, hs⟩ : ∃ s, s = ss[k] := ⟨_, rfl⟩
        rw [← hs] at hc hsk
        have Hs : Hid (s = ss[k]) := hs
        clear hs hA
        by_cases hneg : x - (s.size : Int) < 0
        · go_wp2
          go_ret
          exact ⟨rfl, -1, rfl, .inl rfl⟩
        · go_wp2
          go_round
          case rel =>
            refine ⟨k + 1, _, by omega, by go_num, rfl, by omega, by omega, fun j h h' => ?_⟩
            by_cases hjk : j = k
            · subst hjk; rw [← Hs.out]; omega
            · exact HJ.out j h (by omega)
          case measure => simp [intOf]; omega
      · have hke : k = ss.length := by omega
        subst hke
        go_wp2
        go_ret
        refine ⟨rfl, x, rfl, .inr ⟨hx0, by omega, fun s hs => ?_⟩⟩
        obtain ⟨j, hj, rfl⟩ := List.getElem_of_mem hs
        exact HJ.out j hj hj
end Go.Proofs.YtahihlnhimmgdaaGreatDoor
-- UNF Gen
namespace Go.Proofs.YtahihlnhimmgdaaGreatDoor
open Go.RowKit Go.ChangeShapes Go.WideShapes
/-- What the measure of a block leaves. -/
def SzBl (w : World) (b : Blk) (l : Int) (e : Ending) (w' : World) : Prop := Below w.heap.size w w' ∧ ∃ z : Int, e = .returned (.int .i64 z) ∧ (z = -1 ∨ 0 ≤ z ∧ z + b.p.sv.length + b.p.tg.length + b.mo.length ≤ l ∧ ∀ s ∈ b.mo, s.size ≤ 1048576)
set_option maxHeartbeats 2000000 in
set_option maxRecDepth 100000 in
theorem szBlock_any (X : BlX) (l : Int) (w : World) (hx : RdBl w X) (hz : ∀ s ∈ X.b.mo, s.size ≤ maxLen) (hl0 : 0 ≤ l) (hl1 : l ≤ 1048576) :
    Calls Tryz.prog 92 #[.agg #[.int .i64 X.b.vw, .int .i64 X.b.pa, .int .i64 X.b.p.vw, .int .i64 X.b.p.nm, X.vs, X.vt, X.vm, .int .i64 X.b.sv], .int .i64 l] w fun e w' => SzBl w X.b l e w' := by
  have t0 := bx_new w 73 #[.int .i64 X.b.vw, .int .i64 X.b.pa, .int .i64 X.b.p.vw, .int .i64 X.b.p.nm, X.vs, X.vt, X.vm, .int .i64 X.b.sv]
  have b0 := below1 w (.cells #[.int .i64 X.b.vw, .int .i64 X.b.pa, .int .i64 X.b.p.vw, .int .i64 X.b.p.nm, X.vs, X.vt, X.vm, .int .i64 X.b.sv] 73)
  have HP : Hid (∀ l W, RdPr W X.pr → 0 ≤ l → l ≤ 1048576 → Calls Tryz.prog 77 #[.agg #[.int .i64 X.b.p.vw, .int .i64 X.b.p.nm, X.vs, X.vt], .int .i64 l] W fun e w' => SzPr W X.b.p l e w') := fun l W h h0 h1 => szProof_any X.pr l W h h0 h1
  have HM : Hid (∀ l W, RdS W X.vm X.b.mo → 0 ≤ l → l ≤ 1048576 → Calls Tryz.prog 154 #[X.vm, .int .i64 l] W fun e w' => w' = W ∧ ∃ x : Int, e = .returned (.int .i64 x) ∧ (x = -1 ∨ 0 ≤ x ∧ x + X.b.mo.length ≤ l ∧ ∀ s ∈ X.b.mo, s.size ≤ 1048576)) := fun l W h h0 h1 => szTexts_at _ _ l W h hz h0 h1
  obtain ⟨-, -, q2, q3, q4, q5, q6, -⟩ := t0.c8
  go_enter Tryz.func92, Tryz.ntmps92
  go_wp2_with fail
  refine (HP.out _ _ (hx.pr.below b0) hl0 hl1).mono ?_
  rintro e w1 ⟨hb1, z1, rfl, hz1⟩
  have t1 := t0.below hb1
  have b1 := b0.trans (hb1.mono b0.size)
  clear q2 q3 q4 q5 q6 t0
  obtain ⟨-, -, -, -, -, -, q6, -⟩ := t1.c8
  rcases hz1 with hz1 | ⟨hz10, hz11⟩
  · subst hz1
    go_wp2
    go_ret
    exact ⟨b1, -1, rfl, .inl rfl⟩
  go_wp2_with fail
  refine (HM.out _ _ (hx.mo.below b1) hz10 (by omega)).mono ?_
  rintro e w2 ⟨hw2, z2, rfl, hz2⟩
  subst hw2
  clear q6 t1
  rcases hz2 with hz2 | ⟨hz20, hz21, hz22⟩
  · subst hz2
    go_wp2
    go_ret
    exact ⟨b1, -1, rfl, .inl rfl⟩
  · have HSUM : Hid (z2 + X.b.p.sv.length + X.b.p.tg.length + X.b.mo.length ≤ l) := by unfold Hid; omega
    have HZ : Hid (∀ s ∈ X.b.mo, s.size ≤ 1048576) := hz22
    clear hz11 hz21 hz22
    go_wp2
    go_ret
    exact ⟨b1, z2, rfl, .inr ⟨hz20, HSUM.out, HZ.out⟩⟩
/-- The four cells of a block's proof written. -/
def putPB (W : World) (b : Nat) (a0 a1 a2 a3 : Value) : World := (((W.setCell ⟨b, 2, none⟩ a0).setCell ⟨b, 3, none⟩ a1).setCell ⟨b, 4, none⟩ a2).setCell ⟨b, 5, none⟩ a3
theorem Bx.putP {W : World} {b t : Nat} {u0 u1 u2 u3 u4 u5 u6 u7 : Value} (h : Bx W b t #[u0, u1, u2, u3, u4, u5, u6, u7]) (a0 a1 a2 a3 : Value) : Bx (putPB W b a0 a1 a2 a3) b t #[u0, u1, a0, a1, a2, a3, u6, u7] := by
  have h1 := (((h.set 2 a0).set 3 a1).set 4 a2).set 5 a3
  unfold putPB
  simpa using h1
theorem putPB_below {B : Nat} {a W : World} {b : Nat} {u0 u1 u2 u3 : Value} (h : Below B a W) (hb : B ≤ b) : Below B a (putPB W b u0 u1 u2 u3) := (((h.setCell hb _).setCell hb _).setCell hb _).setCell hb _
theorem putPB_touch {W : World} {b : Nat} {u0 u1 u2 u3 : Value} : Touch [b] W (putPB W b u0 u1 u2 u3) := by
  have hm : b ∈ [b] := List.mem_singleton.2 rfl
  exact ((Touch.set hm).trans (Touch.set hm)).trans ((Touch.set hm).trans (Touch.set hm))
/-- All eight cells written. -/
def put8B (W : World) (b : Nat) (a0 a1 a2 a3 a4 a5 a6 a7 : Value) : World := (((((((W.setCell ⟨b, 0, none⟩ a0).setCell ⟨b, 1, none⟩ a1).setCell ⟨b, 2, none⟩ a2).setCell ⟨b, 3, none⟩ a3).setCell ⟨b, 4, none⟩ a4).setCell ⟨b, 5, none⟩ a5).setCell ⟨b, 6, none⟩ a6).setCell ⟨b, 7, none⟩ a7
theorem Bx.put8 {W : World} {b t : Nat} {u0 u1 u2 u3 u4 u5 u6 u7 : Value} (h : Bx W b t #[u0, u1, u2, u3, u4, u5, u6, u7]) (a0 a1 a2 a3 a4 a5 a6 a7 : Value) : Bx (put8B W b a0 a1 a2 a3 a4 a5 a6 a7) b t #[a0, a1, a2, a3, a4, a5, a6, a7] := by
  have h1 := (((((((h.set 0 a0).set 1 a1).set 2 a2).set 3 a3).set 4 a4).set 5 a5).set 6 a6).set 7 a7
  unfold put8B
  simpa using h1
theorem put8B_below {B : Nat} {a W : World} {b : Nat} {u0 u1 u2 u3 u4 u5 u6 u7 : Value} (h : Below B a W) (hb : B ≤ b) : Below B a (put8B W b u0 u1 u2 u3 u4 u5 u6 u7) := (((((((h.setCell hb _).setCell hb _).setCell hb _).setCell hb _).setCell hb _).setCell hb _).setCell hb _).setCell hb _
theorem put8B_touch {W : World} {b : Nat} {u0 u1 u2 u3 u4 u5 u6 u7 : Value} : Touch [b] W (put8B W b u0 u1 u2 u3 u4 u5 u6 u7) := by
  have hm : b ∈ [b] := List.mem_singleton.2 rfl
  exact (((Touch.set hm).trans (Touch.set hm)).trans ((Touch.set hm).trans (Touch.set hm))).trans (((Touch.set hm).trans (Touch.set hm)).trans ((Touch.set hm).trans (Touch.set hm)))
/-- A block of the call's own, with these parts. -/
def ToBl (w : World) (b : Blk) (e : Ending) (w' : World) : Prop := ∃ Y : BlX, e = .returned (.agg #[.int .i64 Y.b.vw, .int .i64 Y.b.pa, .int .i64 Y.b.p.vw, .int .i64 Y.b.p.nm, Y.vs, Y.vt, Y.vm, .int .i64 Y.b.sv]) ∧ Y.b = b ∧ OwnBl w' w.heap.size Y ∧ Below w.heap.size w w'
set_option maxHeartbeats 4000000 in
set_option maxRecDepth 100000 in
theorem toBlock_any (X : BlX) (w : World) (hx : RdBl w X) (hh : X.b.p.sv.length + X.b.p.tg.length + X.b.mo.length ≤ 1048576) :
    Calls Tryz.prog 93 #[.agg #[.int .i64 X.b.vw, .int .i64 X.b.pa, .int .i64 X.b.p.vw, .int .i64 X.b.p.nm, X.vs, X.vt, X.vm, .int .i64 X.b.sv]] w fun e w' => ToBl w X.b e w' := by
  have HP : Hid (∀ W, RdPr W X.pr → Calls Tryz.prog 82 #[.agg #[.int .i64 X.b.p.vw, .int .i64 X.b.p.nm, X.vs, X.vt]] W fun e w' => ToPr W X.b.p e w') := fun W h => toProof_any X.pr W h (by simp only [BlX.pr]; omega)
  have HM : Hid (∀ W, RdS W X.vm X.b.mo → Calls Tryz.prog 155 #[X.vm] W fun e w' => ∃ u, e = .returned u ∧ OwnS w' W.heap.size u X.b.mo ∧ Below W.heap.size W w') := fun W h => toTexts_any _ _ W h (by omega)
  clear hh
  obtain ⟨A, hA⟩ : ∃ A, A = Obj.cells #[.int .i64 X.b.vw, .int .i64 X.b.pa, .int .i64 X.b.p.vw, .int .i64 X.b.p.nm, X.vs, X.vt, X.vm, .int .i64 X.b.sv] 73 := ⟨_, rfl⟩
  obtain ⟨Z, hZ⟩ : ∃ Z, Z = Obj.cells #[.int .i64 0, .int .i64 0, .int .i64 0, .int .i64 0, .slice none 0 0, .slice none 0 0, .slice none 0 0, .int .i64 0] 34 := ⟨_, rfl⟩
  obtain ⟨C, hC⟩ : ∃ C, C = Obj.cells #[.int .i64 X.b.vw, .int .i64 X.b.pa, .int .i64 0, .int .i64 0, .slice none 0 0, .slice none 0 0, .slice none 0 0, .int .i64 0] 34 := ⟨_, rfl⟩
  obtain ⟨W2, hW2⟩ : ∃ W2, W2 = ((w.alloc A).alloc Z).alloc C := ⟨_, rfl⟩
  have t2 : Bx W2 w.heap.size 73 #[.int .i64 X.b.vw, .int .i64 X.b.pa, .int .i64 X.b.p.vw, .int .i64 X.b.p.nm, X.vs, X.vt, X.vm, .int .i64 X.b.sv] := by rw [hW2, hA]; exact ((bx_new w _ _).below (below1 _ _)).below (below1 _ _)
  have r2 : Bx W2 (w.heap.size + 1) 34 #[.int .i64 0, .int .i64 0, .int .i64 0, .int .i64 0, .slice none 0 0, .slice none 0 0, .slice none 0 0, .int .i64 0] := by
    have h := (bx_new (w.alloc A) 34 #[.int .i64 0, .int .i64 0, .int .i64 0, .int .i64 0, .slice none 0 0, .slice none 0 0, .slice none 0 0, .int .i64 0]).below (below1 _ C)
    rw [szQ] at h
    rw [hW2, hZ]; exact h
  have o2 : Bx W2 (w.heap.size + 2) 34 #[.int .i64 X.b.vw, .int .i64 X.b.pa, .int .i64 0, .int .i64 0, .slice none 0 0, .slice none 0 0, .slice none 0 0, .int .i64 0] := by
    have h := bx_new ((w.alloc A).alloc Z) 34 #[.int .i64 X.b.vw, .int .i64 X.b.pa, .int .i64 0, .int .i64 0, .slice none 0 0, .slice none 0 0, .slice none 0 0, .int .i64 0]
    rw [szQ, szQ] at h
    rw [hW2, hC]; exact h
  have b2 : Below w.heap.size w W2 := by rw [hW2]; exact ((below1 w A).alloc (by simp) Z).alloc (by simp; omega) C
  have s2 : W2.heap.size = w.heap.size + 3 := by rw [hW2]; simp
  have HW : Hid (((w.alloc A).alloc Z).alloc C = W2) := hW2.symm
  have HW' := HW.out
  rw [hA, hZ, hC] at HW'
  have HWW : Hid (((w.alloc (Obj.cells #[.int .i64 X.b.vw, .int .i64 X.b.pa, .int .i64 X.b.p.vw, .int .i64 X.b.p.nm, X.vs, X.vt, X.vm, .int .i64 X.b.sv] 73)).alloc (Obj.cells #[.int .i64 0, .int .i64 0, .int .i64 0, .int .i64 0, .slice none 0 0, .slice none 0 0, .slice none 0 0, .int .i64 0] 34)).alloc (Obj.cells #[.int .i64 X.b.vw, .int .i64 X.b.pa, .int .i64 0, .int .i64 0, .slice none 0 0, .slice none 0 0, .slice none 0 0, .int .i64 0] 34) = W2) := HW'
  have t1 := (bx_new w 73 #[.int .i64 X.b.vw, .int .i64 X.b.pa, .int .i64 X.b.p.vw, .int .i64 X.b.p.nm, X.vs, X.vt, X.vm, .int .i64 X.b.sv])
  obtain ⟨m0, m1, m2, m3, m4, m5, m6, m7⟩ := t1.c8
  obtain ⟨q0, q1, q2, q3, q4, q5, q6, q7⟩ := t2.c8
  clear hA hZ hC hW2 HW HW' t1
  go_enter Tryz.func93, Tryz.ntmps93
  go_wp2_with fail
  rw [HWW.out]
  refine (HP.out _ (hx.pr.below b2)).mono ?_
  rintro e w3 ⟨Y, rfl, hY, hO3, hb3⟩
  have t3 := t2.below hb3
  have r3 := r2.below hb3
  have o3 := o2.below hb3
  have b3 := b2.trans (hb3.mono b2.size)
  have s3 := hb3.size
  clear q0 q1 q2 q3 q4 q5 q6 q7 t2 r2 o2 b2 hb3 HP HWW m0 m1 m2 m3 m4 m5 m6 m7
  obtain ⟨as1, cs1, al1, cl1, hvs, hvt⟩ := hO3.slices
  obtain ⟨⟨yv, yn, ys, yt⟩, yvs, yvt⟩ := Y
  simp only at hY hvs hvt ⊢
  obtain ⟨f0, f1, f2, f3, f4, f5, f6, f7⟩ := o3.f8
  obtain ⟨c0, c1, c2, c3, c4, c5, c6, c7⟩ := o3.c8
  have o4 := o3.putP (.int .i64 yv) (.int .i64 yn) yvs yvt
  have ht4 : Touch [w.heap.size + 2] w3 (putPB w3 (w.heap.size + 2) (.int .i64 yv) (.int .i64 yn) yvs yvt) := putPB_touch
  have t4 : Bx (putPB w3 (w.heap.size + 2) (.int .i64 yv) (.int .i64 yn) yvs yvt) w.heap.size 73 _ := t3.of_block (ht4.block _ t3.lt (by simp))
  have r4 : Bx (putPB w3 (w.heap.size + 2) (.int .i64 yv) (.int .i64 yn) yvs yvt) (w.heap.size + 1) 34 _ := r3.of_block (ht4.block _ r3.lt (by simp))
  have hO4 := hO3.touch ht4 (fun k hk e => by have h1 := (hO3.bound hk).1; have h2 := List.mem_singleton.1 e; omega)
  have b4 : Below w.heap.size w (putPB w3 (w.heap.size + 2) (.int .i64 yv) (.int .i64 yn) yvs yvt) := putPB_below b3 (by omega)
  have s4 : W2.heap.size ≤ (putPB w3 (w.heap.size + 2) (.int .i64 yv) (.int .i64 yn) yvs yvt).heap.size := Nat.le_trans s3 ht4.size
  obtain ⟨-, -, -, -, -, -, q6, -⟩ := t4.c8
  have HQ : Hid (putPB w3 (w.heap.size + 2) (.int .i64 yv) (.int .i64 yn) yvs yvt = (((w3.setCell ⟨w.heap.size + 2, 2, none⟩ (.int .i64 yv)).setCell ⟨w.heap.size + 2, 3, none⟩ (.int .i64 yn)).setCell ⟨w.heap.size + 2, 4, none⟩ yvs).setCell ⟨w.heap.size + 2, 5, none⟩ yvt) := rfl
  clear t3 r3 o3 b3 hO3
  have HL : Hid (ys.length = ys.length ∧ yt.length = yt.length) := ⟨rfl, rfl⟩
  generalize hsn : ys.length = sn at hvs
  generalize hln : yt.length = ln at hvt
  subst hvs hvt
  clear hsn hln HL
  obtain ⟨W4, hW4⟩ : ∃ W4, W4 = putPB w3 (w.heap.size + 2) (.int .i64 yv) (.int .i64 yn) (.slice as1 sn cs1) (.slice al1 ln cl1) := ⟨_, rfl⟩
  have HQ' : Hid ((((w3.setCell ⟨w.heap.size + 2, 2, none⟩ (.int .i64 yv)).setCell ⟨w.heap.size + 2, 3, none⟩ (.int .i64 yn)).setCell ⟨w.heap.size + 2, 4, none⟩ (.slice as1 sn cs1)).setCell ⟨w.heap.size + 2, 5, none⟩ (.slice al1 ln cl1) = W4) := hW4.symm
  rw [← hW4] at o4 ht4 t4 r4 hO4 b4 s4
  unfold putPB at q6
  clear hW4 HQ
  go_wp2_with fail
  rw [HQ'.out]
  refine (HM.out _ (hx.mo.below b4)).mono ?_
  rintro e w5 ⟨um, rfl, hm5, hb5⟩
  have t5 := t4.below hb5
  have r5 := r4.below hb5
  have o5 := o4.below hb5
  have b5 := b4.trans (hb5.mono b4.size)
  have hO5 := hO4.below hb5
  have s5 := hb5.size
  have AP : Hid (∀ q, (Value.slice as1 sn cs1).ownBlock = some q → um.ownBlock = some q → False) := fun q h1 h2 => by have := (World.ownsRow.lt hO4.sv q h1).2; have := (World.ownsRow.lt hm5 q h2).1; omega
  have AQ : Hid (∀ q, (Value.slice al1 ln cl1).ownBlock = some q → um.ownBlock = some q → False) := fun q h1 h2 => by have := (World.ownsRow.lt hO4.tg q h1).2; have := (World.ownsRow.lt hm5 q h2).1; omega
  clear q6 t4 r4 o4 b4 hO4 ht4 hb5 HM HQ' f0 f1 f2 f3 f4 f5 f6 f7 c0 c1 c2 c3 c4 c5 c6 c7
  obtain ⟨am, cm, hvm⟩ := ownSlX hm5
  obtain ⟨f0, f1, f2, f3, f4, f5, f6, f7⟩ := o5.f8
  obtain ⟨c0, c1, c2, c3, c4, c5, c6, c7⟩ := o5.c8
  have o6 := (o5.set 6 um).set 7 (.int .i64 X.b.sv)
  simp only [List.setIfInBounds_toArray, List.set_cons_zero, List.set_cons_succ] at o6
  have hin : w.heap.size + 2 ∈ [w.heap.size + 2] := List.mem_singleton.2 rfl
  have ht6 : Touch [w.heap.size + 2] w5 ((w5.setCell ⟨w.heap.size + 2, 6, none⟩ um).setCell ⟨w.heap.size + 2, 7, none⟩ (.int .i64 X.b.sv)) := (Touch.set hin).trans (Touch.set hin)
  have t6 : Bx (w5.setCell ⟨w.heap.size + 2, 6, none⟩ um) w.heap.size 73 _ := t5.of_block (setOther (by omega))
  obtain ⟨-, -, -, -, -, -, -, q7⟩ := t6.c8
  have r6 : Bx ((w5.setCell ⟨w.heap.size + 2, 6, none⟩ um).setCell ⟨w.heap.size + 2, 7, none⟩ (.int .i64 X.b.sv)) (w.heap.size + 1) 34 _ := r5.of_block (ht6.block _ r5.lt (by simp))
  have hO6 := hO5.touch ht6 (fun k hk e => by have h1 := (hO5.bound hk).1; have h2 := List.mem_singleton.1 e; omega)
  have hm6 : OwnS ((w5.setCell ⟨w.heap.size + 2, 6, none⟩ um).setCell ⟨w.heap.size + 2, 7, none⟩ (.int .i64 X.b.sv)) (w.heap.size + 3) um X.b.mo := ht6.row (hm5.mono (by omega)) (fun k hk e => by have h1 := (World.ownsRow.lt hm5 k hk).1; have h2 := List.mem_singleton.1 e; omega)
  have b6 : Below w.heap.size w ((w5.setCell ⟨w.heap.size + 2, 6, none⟩ um).setCell ⟨w.heap.size + 2, 7, none⟩ (.int .i64 X.b.sv)) := (b5.setCell (p := ⟨w.heap.size + 2, 6, none⟩) (by simp) _).setCell (p := ⟨w.heap.size + 2, 7, none⟩) (by simp) _
  generalize X.b.mo.length = mn at hvm
  subst hvm
  obtain ⟨g0, g1, g2, g3, g4, g5, g6, g7⟩ := o6.c8
  obtain ⟨h0, h1, h2, h3, h4, h5, h6, h7⟩ := r6.c8
  obtain ⟨e0, e1, e2, e3, e4, e5, e6, e7⟩ := r6.f8
  obtain ⟨k0, k1, k2, k3, k4, k5, k6, k7⟩ := (r6.put8 (.int .i64 X.b.vw) (.int .i64 X.b.pa) (.int .i64 yv) (.int .i64 yn) (.slice as1 sn cs1) (.slice al1 ln cl1) (.slice am mn cm) (.int .i64 X.b.sv)).c8
  have HF : Hid (ToBl w X.b (.returned (.agg #[.int .i64 X.b.vw, .int .i64 X.b.pa, .int .i64 yv, .int .i64 yn, .slice as1 sn cs1, .slice al1 ln cl1, .slice am mn cm, .int .i64 X.b.sv])) (put8B ((w5.setCell ⟨w.heap.size + 2, 6, none⟩ (.slice am mn cm)).setCell ⟨w.heap.size + 2, 7, none⟩ (.int .i64 X.b.sv)) (w.heap.size + 1) (.int .i64 X.b.vw) (.int .i64 X.b.pa) (.int .i64 yv) (.int .i64 yn) (.slice as1 sn cs1) (.slice al1 ln cl1) (.slice am mn cm) (.int .i64 X.b.sv))) := by
    have hown : OwnBl ((w5.setCell ⟨w.heap.size + 2, 6, none⟩ (.slice am mn cm)).setCell ⟨w.heap.size + 2, 7, none⟩ (.int .i64 X.b.sv)) (w.heap.size + 3) ⟨⟨X.b.vw, X.b.pa, ⟨yv, yn, ys, yt⟩, X.b.mo, X.b.sv⟩, .slice as1 sn cs1, .slice al1 ln cl1, .slice am mn cm⟩ := ⟨OwnPr.mono hO6 (by omega), hm6, AP.out, AQ.out⟩
    refine ⟨⟨⟨X.b.vw, X.b.pa, ⟨yv, yn, ys, yt⟩, X.b.mo, X.b.sv⟩, .slice as1 sn cs1, .slice al1 ln cl1, .slice am mn cm⟩, rfl, by rw [hY], (hown.touch put8B_touch (fun q hq e => by have h1 := (hown.bound hq).1; have h2 := List.mem_singleton.1 e; omega)).mono (by omega), put8B_below b6 (by omega)⟩
  unfold put8B at k0 k1 k2 k3 k4 k5 k6 k7 HF
  clear o5 r5 hO5 hm5 b5 o6 r6 hO6 hm6 b6 t5 t6 ht6 AP AQ s2 s3 s5 hin hx
  go_wp2
  exact bodyPost_ret (v := .agg #[.int .i64 X.b.vw, .int .i64 X.b.pa, .int .i64 yv, .int .i64 yn, .slice as1 sn cs1, .slice al1 ln cl1, .slice am mn cm, .int .i64 X.b.sv]) (by simp [results, Tryz.results93, go_sem, k0, k1, k2, k3, k4, k5, k6, k7]) rfl HF.out
end Go.Proofs.YtahihlnhimmgdaaGreatDoor
