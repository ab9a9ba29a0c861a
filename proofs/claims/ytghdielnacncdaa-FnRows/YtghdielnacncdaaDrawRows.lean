/- The contracts of the draws that the law of rows begins with: a number, a text, some bytes. -/
import Derived.Test.YtghdielnacncdaaBend
import Derived.Test.YtghdielnacncdaaText
import Derived.Deep.RegionWith
namespace Go.Proofs.Ytghdielnacncdaa
open Go.RowKit
/-- A row of numbers that was just laid, behind a draw. -/
theorem lit_cell {w1 w2 : World} {cs : Array Value} {t : TypeId} {g : Nat} (hg : (w1.alloc (.cells cs t)).grownBy w2 (some g)) (hlt : g < w1.heap.size) (k : Nat) (hk : k < cs.size) : w2.cell? ⟨w1.heap.size, k, none⟩ = some cs[k] := by
  have hb := hg.block w1.heap.size (by simp) (fun e => by simp at e; omega)
  rw [World.cell?_of_block (w := w1.alloc (.cells cs t)) (a := ⟨w1.heap.size, k, none⟩) hb]
  simp [hk]
theorem pickL {w1 w2 : World} {t : TypeId} {g k : Nat} (zs : List Int) (hg : (w1.alloc (.cells (zs.map (Value.int .i64)).toArray t)).grownBy w2 (some g)) (hlt : g < w1.heap.size) (hk : k < zs.length) : ∃ y : Int, w2.cell? ⟨w1.heap.size, k, none⟩ = some (.int .i64 y) := by
  refine ⟨zs[k], ?_⟩
  rw [lit_cell hg hlt k (by simpa using hk)]
  simp
theorem shl_range (x : Int) (h0 : 0 ≤ x) (h1 : x < 30) : 0 < wrap64 (2 ^ (1 + x).toNat) ∧ wrap64 (2 ^ (1 + x).toNat) ≤ 4294967296 := by
  have h2 : (2 : Nat) ^ (1 + x).toNat ≤ 2 ^ 30 := Nat.pow_le_pow_right (by omega) (by omega)
  have h3 : 0 < (2 : Nat) ^ (1 + x).toNat := Nat.pow_pos (by omega)
  have e : (2 : Int) ^ (1 + x).toNat = ((2 ^ (1 + x).toNat : Nat) : Int) := by simp
  rw [e]
  unfold wrap64
  omega
/-- What the draw of a number leaves. -/
def NumD (w : World) (e : Ending) (w' : World) : Prop := ∃ n : Int, e = .returned (.int .i64 n) ∧ Below w.heap.size w w'
set_option maxHeartbeats 1000000 in
set_option maxRecDepth 100000 in
theorem drawNumber_any (v : Value) (bs : List UInt8) (w : World) (hr : Rd w v bs) (hb : bs.length ≤ 4096) :
    Calls Try.prog 5 #[v] w fun e w' => NumD w e w' := by
  go_enter Try.func5, Try.ntmps5
  go_wp2_with fail
  refine (l1New_any v bs _ hr hb).mono ?_
  rintro e w1 ⟨g, rfl, hc⟩
  go_wp2_with fail
  refine (l1Once_any w _ g 4 hc (by omega) (by omega)).mono ?_
  rintro e w2 ⟨b, rfl, hc2, hg2⟩
  clear hc hg2
  cases b
  · go_wp2_with fail
    refine (l1Below_any w _ g 30 hc2 (by omega) (by omega)).mono ?_
    rintro e w3 ⟨x, rfl, hx0, hx1, hc3, hg3⟩
    have hsh := shl_range x hx0 hx1
    generalize hm : wrap64 (2 ^ (1 + x).toNat) = m at hsh
    clear hc2 hg3
    go_wp2_with fail
    refine (l1Below_any w _ g m hc3 (by omega) (by omega)).mono ?_
    rintro e w4 ⟨y, rfl, hy0, hy1, hc4, hg4⟩
    have hbel := hc4.bel
    clear hc3 hg4 hc4
    go_wp2
    go_ret
    exact ⟨_, rfl, hbel⟩
  · have hca := hc2.alloc (.cells #[.int .i64 (-1), .int .i64 0, .int .i64 127, .int .i64 128, .int .i64 16383, .int .i64 16384, .int .i64 1099511627776, .int .i64 1099511627777, .int .i64 (-9223372036854775808)] 2)
    have hlt := hc2.lt
    clear hc2
    go_wp2_with fail
    refine (l1Below_any w _ g 9 hca (by omega) (by omega)).mono ?_
    rintro e w3 ⟨x, rfl, hx0, hx1, hc3, hg3⟩
    obtain ⟨k, rfl⟩ := Int.eq_ofNat_of_zero_le hx0
    obtain ⟨y, hcell⟩ := pickL [-1, 0, 127, 128, 16383, 16384, 1099511627776, 1099511627777, -9223372036854775808] hg3 hlt (k := k) (by simp; omega)
    have hbel := hc3.bel
    clear hca hc3 hg3
    go_wp2
    go_ret
    exact ⟨_, rfl, hbel⟩
/-- What the draw of a text leaves. -/
def TxtD (w : World) (e : Ending) (w' : World) : Prop := ∃ s : ByteArray, e = .returned (.string s) ∧ s.size ≤ 3001 ∧ Below w.heap.size w w'
set_option maxHeartbeats 1000000 in
set_option maxRecDepth 100000 in
theorem drawText_any (v : Value) (bs : List UInt8) (w : World) (hr : Rd w v bs) (hb : bs.length ≤ 4096) :
    Calls Try.prog 9 #[v] w fun e w' => TxtD w e w' := by
  obtain ⟨j0, hj, hy0, hy1, hy2⟩ := info_parts Try.info5
  go_enter Try.func9, Try.ntmps9
  go_wp2_with fail
  refine (l1New_any v bs _ hr hb).mono ?_
  rintro e w1 ⟨g, rfl, hc⟩
  go_wp2_with fail
  refine (l1Once_any w _ g 20 hc (by omega) (by omega)).mono ?_
  rintro e w2 ⟨b, rfl, hc2, hg2⟩
  clear hc hg2
  cases b
  · go_wp2_with fail
    refine (l1DrawText_any w _ g hc2).mono ?_
    rintro e w3 ⟨s, rfl, hs, hc3, hg3⟩
    have hbel := hc3.bel
    clear hc2 hg3 hc3
    go_wp2
    go_ret
    exact ⟨_, rfl, by omega, hbel⟩
  · go_wp2_with fail
    refine (l1Below_any w _ g 2 hc2 (by omega) (by omega)).mono ?_
    rintro e w3 ⟨x, rfl, hx0, hx1, hc3, hg3⟩
    obtain ⟨zn, rfl⟩ := Int.eq_ofNat_of_zero_le hx0
    clear hc2 hg3
    go_wp2_with (at_make; (refine wpList_make_full _ rfl _ _ 22 rfl w3.heap.size 5 j0 (.int .u8 0) 1 Try.underlying22 hj hy0 hy1 .i64 .i64 (3000 + (zn : Int)) (3000 + (zn : Int)) (3000 + zn) rfl rfl (by omega) (by omega) ?f1 ?f2 ?f3 ?_))
    case f1 => rw [hy2]; omega
    case f2 => unfold maxLen; omega
    case f3 => omega
    intro w5 ho5 hg5
    obtain ⟨zs, Hzl, hoz⟩ : ∃ zs : List UInt8, Hid (zs.length = 3000 + zn) ∧ Own w5 w3.heap.size (.slice (some ⟨w3.heap.size, 0, none⟩) (3000 + zn) (3000 + zn)) zs := by
      rw [madeB] at ho5
      exact ⟨List.replicate (3000 + zn) 0, List.length_replicate, by unfold Own; rw [List.length_replicate]; exact ho5⟩
    have hcv := conv_own hoz
    have hbel := (hc3.grow hg5 (fun k hk => by cases hk)).bel
    have hzs : (⟨zs.toArray⟩ : ByteArray).size ≤ 3001 := by show zs.toArray.size ≤ 3001; rw [List.size_toArray, Hzl.out]; omega
    generalize (⟨zs.toArray⟩ : ByteArray) = t at hcv hzs
    clear ho5 hg5 hc3 hoz Hzl
    go_wp2
    go_ret
    exact ⟨_, rfl, hzs, hbel⟩
/-- What the draw of some bytes leaves. -/
def BytesD (w : World) (e : Ending) (w' : World) : Prop := ∃ (u : Value) (ys : List UInt8), e = .returned u ∧ Wr w' w.heap.size u ys ∧ ys.length ≤ 1048576 ∧ (∃ g cap, u = .slice (some ⟨g, 0, none⟩) ys.length cap) ∧ Below w.heap.size w w'
theorem DCur.on {w0 w w' : World} {g : Nat} (h : DCur w0 w g) (hb : Below w.heap.size w w') : DCur w0 w' g :=
  h.grow (row := none) ⟨hb.os, hb.tape, hb.output, hb.size, fun k hk _ => hb.block k hk⟩ (fun k hk => by cases hk)
theorem app_size (a b : ByteArray) : (a ++ b).size = a.size + b.size := ByteArray.size_append
theorem num_len9 (n : Int) : (num n).length ≤ 9 := by
  unfold num
  split
  · exact enc_len9 _ (by omega)
  · simp
set_option maxHeartbeats 1000000 in
set_option maxRecDepth 100000 in
theorem drawReadNumber_any (v : Value) (bs : List UInt8) (w : World) (hr : Rd w v bs) (hb : bs.length ≤ 4096) :
    Calls Try.prog 7 #[v] w fun e w' => BytesD w e w' := by
  go_enter Try.func7, Try.ntmps7
  go_wp2_with fail
  refine (l1New_any v bs _ hr hb).mono ?_
  rintro e w1 ⟨g, rfl, hc⟩
  have hr1 := hr.below hc.bel
  go_wp2_with fail
  go_region_with (first
    | (go_at_call 5; refine (drawNumber_any v bs _ ?_ hb).mono ?_; exact hr1; rintro e w2 ⟨n, rfl, hb2⟩; have hc2 : DCur w w2 g := (hc.drewN 1).on hb2; have hlt2 := hc2.lt)
    | (go_at_call 14; refine (specNumber_any _ _).mono ?_; rintro e w3 ⟨u, rfl, ho3, hb3⟩; have hc3 := hc2.on hb3; have hnl := num_len9 n; generalize num n = xs at ho3 hnl; have hcv := conv_own ho3)
    | (go_at_call 20; refine (l1DrawText_any w _ g ?_).mono ?_; exact hc3; rintro e w4 ⟨t, rfl, ht, hc4, hg4⟩; have ho4 : Own w4 w2.heap.size u xs := row_kept ho3 hg4 (fun k hk e => by have := (World.ownsRow.lt ho3 k hk).1; simp at e; omega); have hcv4 := conv_own ho4))
  all_goals
    have hz : ((⟨xs.toArray⟩ : ByteArray) ++ t).size ≤ 18 := by
      rw [app_size]
      have : (⟨xs.toArray⟩ : ByteArray).size = xs.length := by show xs.toArray.size = _; simp
      omega
    generalize (⟨xs.toArray⟩ : ByteArray) ++ t = s at hz ⊢
    clear hcv hcv4 ho3 ho4 hg4 hc3 hb3 hc2 hb2 hc hr1 hr hnl ht
    go_wp2_with fail
    refine (l1Bend_any w _ g s _ hc4 (by omega) (by decide) (by decide)).mono ?_
    rintro e w5 ⟨s2, rfl, hs2, hc5, hg5⟩
    have hcb := conv_bytes w5 s2
    have hw := bytes_new w5 s2 (by unfold maxLen; omega)
    have hg6 := bytes_grown w5 s2 none
    have hbel := hc5.bel.grown hg6 hc5.bel.size (fun k hk => by cases hk)
    have hsl : s2.data.toList.length ≤ 1048576 := by rw [size_length]; omega
    have hw' := hw.mono hc5.bel.size
    generalize Lib.bytesWorld w5 5 s2 = W at hcb hw' hbel
    generalize grownCap w5 s2.size 0 5 = c0 at hcb hw'
    have HYL : Hid (s2.data.toList.length = s2.size) := size_length s2
    generalize s2.data.toList = ys at hw' hsl HYL
    clear hw hg6 hc4 hg5
    go_wp2
    go_ret
    exact ⟨_, ys, rfl, hw', hsl, ⟨_, _, by rw [HYL.out]; rfl⟩, hbel⟩
set_option maxHeartbeats 1000000 in
set_option maxRecDepth 100000 in
theorem drawReadText_any (v : Value) (bs : List UInt8) (w : World) (hr : Rd w v bs) (hb : bs.length ≤ 4096) :
    Calls Try.prog 11 #[v] w fun e w' => BytesD w e w' := by
  go_enter Try.func11, Try.ntmps11
  go_wp2_with fail
  refine (l1New_any v bs _ hr hb).mono ?_
  rintro e w1 ⟨g, rfl, hc⟩
  have hr1 := hr.below hc.bel
  go_wp2_with fail
  go_region_with (first
    | (go_at_call 9; refine (drawText_any v bs _ ?_ hb).mono ?_; exact hr1; rintro e w2 ⟨z, rfl, hzz, hb2⟩; have hc2 : DCur w w2 g := (hc.drewN 1).on hb2; have hlt2 := hc2.lt)
    | (go_at_call 16; refine (specText_any _ _ (by omega)).mono ?_; rintro e w3 ⟨u, rfl, ho3, hb3⟩; have hc3 := hc2.on hb3; have hnl := textOf_len z; generalize textOf z = xs at ho3 hnl; have hcv := conv_own ho3)
    | (go_at_call 20; refine (l1DrawText_any w _ g ?_).mono ?_; exact hc3; rintro e w4 ⟨t, rfl, ht, hc4, hg4⟩; have ho4 : Own w4 w2.heap.size u xs := row_kept ho3 hg4 (fun k hk e => by have := (World.ownsRow.lt ho3 k hk).1; simp at e; omega); have hcv4 := conv_own ho4))
  all_goals
    have hz : ((⟨xs.toArray⟩ : ByteArray) ++ t).size ≤ 3018 := by
      rw [app_size]
      have : (⟨xs.toArray⟩ : ByteArray).size = xs.length := by show xs.toArray.size = _; simp
      omega
    generalize (⟨xs.toArray⟩ : ByteArray) ++ t = s at hz ⊢
    clear hcv hcv4 ho3 ho4 hg4 hc3 hb3 hc2 hb2 hc hr1 hr hnl ht
    go_wp2_with fail
    refine (l1Once_any w _ g 2 hc4 (by omega) (by omega)).mono ?_
    rintro e w6 ⟨b, rfl, hc6, hg6⟩
    clear hc4 hg6
    cases b
    · have hcb := conv_bytes w6 s
      have hw := bytes_new w6 s (by unfold maxLen; omega)
      have hg6 := bytes_grown w6 s none
      have hbel := hc6.bel.grown hg6 hc6.bel.size (fun k hk => by cases hk)
      have hsl : s.data.toList.length ≤ 1048576 := by rw [size_length]; omega
      have hw' := hw.mono hc6.bel.size
      generalize Lib.bytesWorld w6 5 s = W at hcb hw' hbel
      generalize grownCap w6 s.size 0 5 = c0 at hcb hw'
      have HYL : Hid (s.data.toList.length = s.size) := size_length s
      generalize s.data.toList = ys at hw' hsl HYL
      clear hw hg6 hc6
      go_wp2
      go_ret
      exact ⟨_, ys, rfl, hw', hsl, ⟨_, _, by rw [HYL.out]; rfl⟩, hbel⟩
    · go_wp2_with fail
      refine (l1Bend_any w _ g s _ hc6 (by omega) (by decide) (by decide)).mono ?_
      rintro e w5 ⟨s2, rfl, hs2, hc5, hg5⟩
      have hcb := conv_bytes w5 s2
      have hw := bytes_new w5 s2 (by unfold maxLen; omega)
      have hg6 := bytes_grown w5 s2 none
      have hbel := hc5.bel.grown hg6 hc5.bel.size (fun k hk => by cases hk)
      have hsl : s2.data.toList.length ≤ 1048576 := by rw [size_length]; omega
      have hw' := hw.mono hc5.bel.size
      generalize Lib.bytesWorld w5 5 s2 = W at hcb hw' hbel
      generalize grownCap w5 s2.size 0 5 = c0 at hcb hw'
      have HYL : Hid (s2.data.toList.length = s2.size) := size_length s2
      generalize s2.data.toList = ys at hw' hsl HYL
      clear hw hg6 hc6 hg5
      go_wp2
      go_ret
      exact ⟨_, ys, rfl, hw', hsl, ⟨_, _, by rw [HYL.out]; rfl⟩, hbel⟩
end Go.Proofs.Ytghdielnacncdaa
