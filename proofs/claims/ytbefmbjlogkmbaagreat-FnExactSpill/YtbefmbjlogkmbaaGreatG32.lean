/- The contracts of the laws' own marks of rows of tables and of trees. What a small tree leaves room for. -/
import Derived.Test.YtbefmbjlogkmbaaGreatG31
namespace Go.Proofs.YtbefmbjlogkmbaaGreat
set_option maxHeartbeats 16000000
set_option maxRecDepth 100000
open Go.RowKit
def blk (t : TV) : List Nat := oneB t.vb ++ oneB t.vk
theorem tblks_cons (a : TV) (r : List TV) : tblks (a :: r) = blk a ++ tblks r := by simp [tblks, blk]
theorem blk_sub {ts : List TV} {t : TV} (h : t ∈ ts) {k : Nat} (hk : k ∈ blk t) : k ∈ tblks ts := List.mem_flatMap.2 ⟨t, h, hk⟩
theorem tblks_apart : ∀ {ts : List TV}, (tblks ts).Nodup → ts.Pairwise (fun p q => ∀ k ∈ blk p, k ∉ blk q)
  | [], _ => List.Pairwise.nil
  | a :: r, h => by
    rw [tblks_cons, List.nodup_append] at h
    rw [List.pairwise_cons]
    exact ⟨fun q hq k hk hk2 => h.2.2 k hk k (blk_sub hq hk2) rfl, tblks_apart h.2.1⟩
theorem apart_ij {ts : List TV} (h : (tblks ts).Nodup) {i j : Nat} (hi : i < ts.length) (hj : j < ts.length) (hne : i ≠ j) {k : Nat} (h1 : k ∈ blk (nthT ts i)) : k ∉ blk (nthT ts j) := by
  have hp := List.pairwise_iff_getElem.1 (tblks_apart h)
  rw [nthT_eq hi] at h1
  rw [nthT_eq hj]
  rcases Nat.lt_or_gt_of_ne hne with hl | hl
  · exact hp i j hi hj hl k h1
  · exact fun h2 => hp j i hj hi hl k h2 h1
theorem tblks_set {ts : List TV} {i : Nat} {t : TV} (hi : i < ts.length) (h1 : t.vb = (nthT ts i).vb) (h2 : t.vk = (nthT ts i).vk) : tblks (ts.set i t) = tblks ts := by
  induction ts generalizing i with
  | nil => simp at hi
  | cons a r ih =>
    cases i with
    | zero =>
      rw [nthT_zero] at h1 h2
      rw [List.set_cons_zero, tblks_cons, tblks_cons]
      unfold blk
      rw [h1, h2]
    | succ n =>
      rw [nthT_succ] at h1 h2
      rw [List.set_cons_succ, tblks_cons, tblks_cons, ih (by simpa using hi) h1 h2]
theorem TVs_set_same {ts : List TV} {i : Nat} {t : TV} (hi : i < ts.length) (h : TC t = TC (nthT ts i)) : TVs (ts.set i t) = TVs ts := by
  induction ts generalizing i with
  | nil => simp at hi
  | cons a r ih =>
    cases i with
    | zero => rw [nthT_zero] at h; rw [List.set_cons_zero, TVs_cons, TVs_cons, h]
    | succ n => rw [nthT_succ] at h; rw [List.set_cons_succ, TVs_cons, TVs_cons, ih (by simpa using hi) h]
theorem nthT_set {ts : List TV} {i j : Nat} {t : TV} (_ : i < ts.length) (hj : j < ts.length) : nthT (ts.set i t) j = if i = j then t else nthT ts j := by
  rw [nthT_eq (by rw [List.length_set]; exact hj), List.getElem_set, nthT_eq hj]
theorem inT_at {w : World} {B : Nat} {ts : List TV} : InT w B ts ↔ ∀ i, i < ts.length → OwnI w B (nthT ts i).vb (nthT ts i).T.bits ∧ OwnS w B (nthT ts i).vk (nthT ts i).T.blocks := by
  constructor
  · intro h i hi
    exact h (nthT ts i) (by rw [nthT_eq hi]; exact List.getElem_mem hi)
  · intro h t ht
    obtain ⟨i, hi, rfl⟩ := List.getElem_of_mem ht
    rw [← nthT_eq hi]
    exact h i hi
theorem ts_first {w : World} {B g n cap i j : Nat} {us : List TV} {s : ByteArray} {t : TV} (ho : OwnTs w B (.slice (some ⟨g, 0, none⟩) n cap) us) (hn : n = us.length) (hi : i < us.length) (hj : j < 2) (h : (TC (nthT us i)).set j (.string s) = TC t) (h1 : t.vb = (nthT us i).vb) (h2 : t.vk = (nthT us i).vk) (h3 : t.T.bits = (nthT us i).T.bits) (h4 : t.T.blocks = (nthT us i).T.blocks) :
    OwnTs (w.setCell ⟨g, i * 4 + j, none⟩ (.string s)) B (.slice (some ⟨g, 0, none⟩) n cap) (us.set i t) := by
  have hrow : w.ownsRow B 72 4 (.slice (some ⟨g, 0, none⟩) n cap) n (TVs us) := by have := ho.row; unfold OwnT at this; rw [← hn] at this; exact this
  have R := ownT_store hrow hi (show j < 4 by omega) h
  refine ⟨?_, ?_, by rw [tblks_set hi h1 h2]; exact ho.nod⟩
  · unfold OwnT
    rw [List.length_set, ← hn]
    exact R
  · rw [inT_at]
    intro k hk
    rw [List.length_set] at hk
    have hin := (inT_at.1 ho.ins) k hk
    have gne : ∀ {t' s' m : Nat} {v : Value} {xs : List Value}, w.ownsRow B t' s' v m xs → t' ≠ 72 → ∀ q, v.ownBlock = some q → g ≠ q := fun hr ht q hq e => rows_apart hr hrow ht q hq (by rw [← e]; rfl)
    have e1 : OwnI (w.setCell ⟨g, i * 4 + j, none⟩ (.string s)) B (nthT us k).vb (nthT us k).T.bits := row_set hin.1 (gne hin.1 (by decide))
    have e2 : OwnS (w.setCell ⟨g, i * 4 + j, none⟩ (.string s)) B (nthT us k).vk (nthT us k).T.blocks := row_set hin.2 (gne hin.2 (by decide))
    rw [nthT_set hi hk]
    split
    · rename_i e
      subst e
      rw [h1, h2, h3, h4]
      exact ⟨e1, e2⟩
    · exact ⟨e1, e2⟩
theorem nod_blks {v : Value} {ts : List TV} (h : (oneB v ++ tblks ts).Nodup) : (tblks ts).Nodup := (List.nodup_append.1 h).2.1
theorem TC_inj {t u : TV} (h : TC t = TC u) : t.vb = u.vb ∧ t.vk = u.vk := by
  simp only [TC, List.cons.injEq, and_true] at h
  exact ⟨h.2.2.1, h.2.2.2⟩
theorem ts_bits {w w2 : World} {B i : Nat} {v : Value} {us : List TV} {t : TV} (ho : OwnTs w B v us) (hi : i < us.length) (e1 : TC t = TC (nthT us i)) (e2 : t.T.blocks = (nthT us i).T.blocks) (hnew : OwnI w2 B t.vb t.T.bits) (hg : w.grownBy w2 t.vb.ownBlock) :
    OwnTs w2 B v (us.set i t) := by
  have hin := inT_at.1 ho.ins
  obtain ⟨v1, v2⟩ := TC_inj e1
  rw [v1] at hg
  refine ⟨?_, ?_, by rw [tblks_set hi v1 v2]; exact ho.nod⟩
  · unfold OwnT
    rw [List.length_set, TVs_set_same hi e1]
    exact row_kept ho.row hg (fun q hq e => rows_apart ho.row (hin i hi).1 (by decide) q hq e)
  · rw [inT_at]
    intro k hk
    rw [List.length_set] at hk
    rw [nthT_set hi hk]
    split
    · rw [v2, e2]
      exact ⟨hnew, row_kept (hin i hi).2 hg (fun q hq e => rows_apart (hin i hi).2 (hin i hi).1 (by decide) q hq e)⟩
    · rename_i hne
      refine ⟨row_kept (hin k hk).1 hg (fun q hq e => ?_), row_kept (hin k hk).2 hg (fun q hq e => rows_apart (hin k hk).2 (hin i hi).1 (by decide) q hq e)⟩
      exact apart_ij (nod_blks ho.nod) hi hk hne (List.mem_append_left _ (mem_oneB.2 e)) (List.mem_append_left _ (mem_oneB.2 hq))
theorem ts_blocks {w w2 : World} {B i : Nat} {v : Value} {us : List TV} {t : TV} (ho : OwnTs w B v us) (hi : i < us.length) (e1 : TC t = TC (nthT us i)) (e2 : t.T.bits = (nthT us i).T.bits) (hnew : OwnS w2 B t.vk t.T.blocks) (hg : w.grownBy w2 t.vk.ownBlock) :
    OwnTs w2 B v (us.set i t) := by
  have hin := inT_at.1 ho.ins
  obtain ⟨v1, v2⟩ := TC_inj e1
  rw [v2] at hg
  refine ⟨?_, ?_, by rw [tblks_set hi v1 v2]; exact ho.nod⟩
  · unfold OwnT
    rw [List.length_set, TVs_set_same hi e1]
    exact row_kept ho.row hg (fun q hq e => rows_apart ho.row (hin i hi).2 (by decide) q hq e)
  · rw [inT_at]
    intro k hk
    rw [List.length_set] at hk
    rw [nthT_set hi hk]
    split
    · rw [v1, e2]
      exact ⟨row_kept (hin i hi).1 hg (fun q hq e => rows_apart (hin i hi).1 (hin i hi).2 (by decide) q hq e), hnew⟩
    · rename_i hne
      refine ⟨row_kept (hin k hk).1 hg (fun q hq e => rows_apart (hin k hk).1 (hin i hi).2 (by decide) q hq e), row_kept (hin k hk).2 hg (fun q hq e => ?_)⟩
      exact apart_ij (nod_blks ho.nod) hi hk hne (List.mem_append_right _ (mem_oneB.2 e)) (List.mem_append_right _ (mem_oneB.2 hq))
def cntT (ts : List TV) : Nat := (ts.map (fun t => 2 + t.T.bits.length + t.T.blocks.length)).sum
def mkT (k : Nat) (t : TV) : TV := ⟨⟨mk k, mk (k + 1), imarks (k + 2) t.T.bits.length, smarks (k + 2 + t.T.bits.length) t.T.blocks.length⟩, t.vb, t.vk⟩
def tmkTo (k : Nat) (ts : List TV) (i : Nat) : List TV := (List.range i).map (fun j => mkT (k + cntT (ts.take j)) (nthT ts j))
theorem tmkTo_len (k : Nat) (ts : List TV) (i : Nat) : (tmkTo k ts i).length = i := by simp [tmkTo]
theorem cntT_take {ts : List TV} {k : Nat} (hk : k < ts.length) : cntT (ts.take (k + 1)) = cntT (ts.take k) + (2 + (nthT ts k).T.bits.length + (nthT ts k).T.blocks.length) := by
  unfold cntT
  rw [take_snoc hk, List.map_append, List.sum_append]
  simp
theorem cntT_le {ts : List TV} {k : Nat} : cntT (ts.take k) ≤ cntT ts := by
  have h : ts = ts.take k ++ ts.drop k := (List.take_append_drop k ts).symm
  have h2 : cntT ts = cntT (ts.take k) + cntT (ts.drop k) := by
    unfold cntT
    rw [← List.sum_append, ← List.map_append, List.take_append_drop]
  omega
theorem tmk_nth {k : Nat} {ts : List TV} {i : Nat} (hi : i < ts.length) : nthT (tmkTo k ts i ++ ts.drop i) i = nthT ts i := by
  have hl := tmkTo_len k ts i
  rw [nthT_eq (by rw [List.length_append, hl, List.length_drop]; omega), List.getElem_append_right (by rw [hl]; exact Nat.le_refl _), nthT_eq hi]
  simp [hl]
theorem tmk_len {k : Nat} {ts : List TV} {i : Nat} (hi : i ≤ ts.length) : (tmkTo k ts i ++ ts.drop i).length = ts.length := by
  rw [List.length_append, tmkTo_len, List.length_drop]; omega
theorem tmk_step {k : Nat} {ts : List TV} {i : Nat} (hi : i < ts.length) : (tmkTo k ts i ++ ts.drop i).set i (mkT (k + cntT (ts.take i)) (nthT ts i)) = tmkTo k ts (i + 1) ++ ts.drop (i + 1) := by
  have hl := tmkTo_len k ts i
  rw [List.set_append_right _ _ (by rw [hl]; exact Nat.le_refl _), hl, Nat.sub_self, List.drop_eq_getElem_cons hi, List.set_cons_zero]
  unfold tmkTo
  rw [List.range_succ, List.map_append, List.append_assoc]
  rfl
theorem imark_at (v : Value) (bs : List Int) (base : Nat) (x : Int) (k : Nat) (w : World) (hx : x = (k : Int)) (hk : k + bs.length ≤ 1073741824) (hown : OwnI w base v bs) :
    Calls Tryz.prog 41 #[v, .int .i64 x] w fun e w' => e = .returned (.int .i64 ((k + bs.length : Nat) : Int)) ∧ OwnI w' base v (imarks k bs.length) ∧ w.grownBy w' v.ownBlock := by rw [hx]; exact imark_any v bs base k w hk hown
theorem smark_at (v : Value) (bs : List ByteArray) (base : Nat) (x : Int) (k : Nat) (w : World) (hx : x = (k : Int)) (hk0 : 0 < k) (hk : k + bs.length ≤ 4194304) (hown : OwnS w base v bs) :
    Calls Tryz.prog 70 #[v, .int .i64 x] w fun e w' => e = .returned (.int .i64 ((k + bs.length : Nat) : Int)) ∧ OwnS w' base v (smarks k bs.length) ∧ w.grownBy w' v.ownBlock := by rw [hx]; exact smark_any v bs base k w hk0 hk hown
def MarkTs (w : World) (B k : Nat) (v : Value) (ts : List TV) (e : Ending) (w' : World) : Prop :=
  e = .returned (.int .i64 ((k + cntT ts : Nat) : Int)) ∧ OwnTs w' B v (tmkTo k ts ts.length) ∧ Touch (oneB v ++ tblks ts) w w'
theorem markTabs_any (v : Value) (ts : List TV) (B k : Nat) (w : World) (ho : OwnTs w B v ts) (hk0 : 0 < k) (hkn : ts = [] ∨ k + cntT ts ≤ 4194304) :
    Calls Tryz.prog 40 #[v, .int .i64 (k : Int)] w fun e w' => MarkTs w B k v ts e w' := by
  rcases ho.row.2 with ⟨hv, h0⟩ | ⟨g, cap, cur, hv, hBg, hg, hn, hc, _⟩
  · have : ts = [] := List.length_eq_zero_iff.1 h0
    subst this
    subst hv
    have END : Hid (MarkTs w B k (.slice none 0 0) [] (.returned (.int .i64 (k : Int))) w) := ⟨by simp [cntT], ho, Touch.refl _ _⟩
    go_enter Tryz.func40, Tryz.ntmps40
    go_wp2
    refine wp_loop_rounds 1 ?_
    rw [rounds_succ]
    go_wp2
    go_ret
    exact END.out
  · subst hv
    unfold maxLen at hc
    obtain ⟨nn, hnn⟩ : ∃ nn, nn = ts.length := ⟨_, rfl⟩
    have HNN : Hid (nn = ts.length) := hnn
    rw [← hnn] at ho hn ⊢
    have HKB : Hid (ts = [] ∨ k + cntT ts ≤ 4194304) := hkn
    clear hkn
    have HGB : Hid (g ∈ oneB (.slice (some ⟨g, 0, none⟩) nn cap) ++ tblks ts) := List.mem_append_left _ (mem_oneB.2 rfl)
    clear hg hnn
    have ST0 : OwnTs w B (.slice (some ⟨g, 0, none⟩) nn cap) (tmkTo k ts 0 ++ ts.drop 0) := ho
    go_enter Tryz.func40, Tryz.ntmps40
    go_wp2
    go_loopw [1, 5] (fun kk i wr => ∃ (j z : Nat), j ≤ nn ∧ i = .int .i64 j ∧ kk = .int .i64 (z : Int) ∧ Hid (z = k + cntT (ts.take j)) ∧ Hid (OwnTs wr B (.slice (some ⟨g, 0, none⟩) nn cap) (tmkTo k ts j ++ ts.drop j)) ∧ Hid (Touch (oneB (.slice (some ⟨g, 0, none⟩) nn cap) ++ tblks ts) w wr)) (fun _ i _ => nn - (intOf i).toNat)
    case atStart => exact ⟨0, k, Nat.zero_le _, rfl, rfl, by unfold Hid; simp [cntT], ST0, Touch.refl _ _⟩
    case round =>
      obtain ⟨j, z, hj, rfl, rfl, HZ, HO, HT⟩ := hrel
      clear ST0 ho
      by_cases hlt : j < nn
      · have hjl : j < ts.length := by rw [← HNN.out]; exact hlt
        have hjc : j < cap := by omega
        have hz0 : 0 < z := by have := HZ.out; omega
        have hkn : k + cntT ts ≤ 4194304 := by
          rcases HKB.out with e | e
          · rw [e] at hjl; simp at hjl
          · exact e
        have hct := cntT_take hjl
        have hcl := cntT_le (ts := ts) (k := j + 1)
        have HNT : Hid (nthT (tmkTo k ts j ++ ts.drop j) j = nthT ts j) := tmk_nth hjl
        have HLN : Hid ((tmkTo k ts j ++ ts.drop j).length = nn) := by unfold Hid; rw [tmk_len (by omega), HNN.out]
        have HSTP : Hid ((tmkTo k ts j ++ ts.drop j).set j (mkT z (nthT ts j)) = tmkTo k ts (j + 1) ++ ts.drop (j + 1)) := by unfold Hid; rw [HZ.out]; exact tmk_step hjl
        have HZN : Hid (z + 2 + (nthT ts j).T.bits.length + (nthT ts j).T.blocks.length = k + cntT (ts.take (j + 1))) := by unfold Hid; have := HZ.out; omega
        have hzn : z + 2 + (nthT ts j).T.bits.length + (nthT ts j).T.blocks.length ≤ 4194304 := by have := HZ.out; omega
        have HSUB : Hid (∀ q ∈ blk (nthT ts j), q ∈ oneB (.slice (some ⟨g, 0, none⟩) nn cap) ++ tblks ts) := fun q hq => List.mem_append_right _ (blk_sub (by rw [nthT_eq hjl]; exact List.getElem_mem hjl) hq)
        generalize tmkTo k ts j ++ ts.drop j = us at HO HNT HLN HSTP
        clear hct hcl hjl hkn
        have hlu : j < us.length := by rw [HLN.out]; exact hlt
        have e0 := HNT.out
        obtain ⟨t, ht⟩ : ∃ t, t = nthT us j := ⟨_, rfl⟩
        rw [← e0] at HSTP HZN hzn HSUB
        rw [← ht] at HSTP HZN hzn HSUB
        have HTU : Hid (t = nthT us j) := ht
        clear e0 ht HNT
        obtain ⟨bn, hbn⟩ : ∃ bn, bn = t.T.bits.length := ⟨_, rfl⟩
        obtain ⟨kn, hkn2⟩ : ∃ kn, kn = t.T.blocks.length := ⟨_, rfl⟩
        rw [← hbn, ← hkn2] at HZN hzn
        have HBN : Hid (bn = t.T.bits.length) := hbn
        have HKN : Hid (kn = t.T.blocks.length) := hkn2
        clear hbn hkn2
        -- THE FIRST TEXT
        go_wp2_with fail
        refine (markText_any z _ hz0 (by omega)).mono ?_
        rintro e w1 ⟨rfl, hb1⟩
        have HO1 := HO.out.below hb1
        have HT1 := HT.out.trans (Touch.of_below hb1)
        have hrow1 : w1.ownsRow B 72 4 (.slice (some ⟨g, 0, none⟩) nn cap) nn (TVs us) := by have := HO1.row; unfold OwnT at this; rw [HLN.out] at this; exact this
        obtain ⟨d0, -, -, -⟩ := ownT_cells hrow1 HLN.out.symm j hlt
        have f0 := hrow1.frozenAt (j * 4)
        have S1 : OwnTs (w1.setCell ⟨g, j * 4, none⟩ (.string (mk z))) B (.slice (some ⟨g, 0, none⟩) nn cap) (us.set j ⟨⟨mk z, t.T.last, t.T.bits, t.T.blocks⟩, t.vb, t.vk⟩) := ts_first (j := 0) HO1 HLN.out.symm hlu (by omega) (by rw [← HTU.out]; rfl) (by rw [← HTU.out]) (by rw [← HTU.out]) (by rw [← HTU.out]) (by rw [← HTU.out])
        have HT2 : Hid (Touch _ w (w1.setCell ⟨g, j * 4, none⟩ (.string (mk z)))) := HT1.trans (Touch.set HGB.out)
        have HS1 : Hid (OwnTs _ _ _ _) := S1
        have hz1 : 0 < z + 1 := by omega
        clear HO1 HT1 hrow1 S1 HO HT hb1
        -- THE SECOND TEXT
        go_wp2_with fail
        refine (markText_at _ (z + 1) _ (by omega) hz1 (by omega)).mono ?_
        rintro e w2 ⟨rfl, hb2⟩
        have HO2 := HS1.out.below hb2
        have HT3 := HT2.out.trans (Touch.of_below hb2)
        have HN2 : Hid (nthT (us.set j (⟨⟨mk z, t.T.last, t.T.bits, t.T.blocks⟩, t.vb, t.vk⟩ : TV)) j = (⟨⟨mk z, t.T.last, t.T.bits, t.T.blocks⟩, t.vb, t.vk⟩ : TV)) := nthT_set_same hlu (⟨⟨mk z, t.T.last, t.T.bits, t.T.blocks⟩, t.vb, t.vk⟩ : TV)
        have HL2 : Hid (nn = (us.set j ⟨⟨mk z, t.T.last, t.T.bits, t.T.blocks⟩, t.vb, t.vk⟩).length) := by unfold Hid; rw [List.length_set]; exact HLN.out.symm
        have hrow2 : w2.ownsRow B 72 4 (.slice (some ⟨g, 0, none⟩) nn cap) nn (TVs (us.set j ⟨⟨mk z, t.T.last, t.T.bits, t.T.blocks⟩, t.vb, t.vk⟩)) := by have := HO2.row; unfold OwnT at this; rw [← HL2.out] at this; exact this
        obtain ⟨-, d1, -, -⟩ := ownT_cells hrow2 HL2.out j hlt
        have f1 := hrow2.frozenAt (j * 4 + 1)
        have S2 : OwnTs (w2.setCell ⟨g, j * 4 + 1, none⟩ (.string (mk (z + 1)))) B (.slice (some ⟨g, 0, none⟩) nn cap) ((us.set j ⟨⟨mk z, t.T.last, t.T.bits, t.T.blocks⟩, t.vb, t.vk⟩).set j ⟨⟨mk z, mk (z + 1), t.T.bits, t.T.blocks⟩, t.vb, t.vk⟩) := ts_first (j := 1) HO2 HL2.out (by rw [← HL2.out]; exact hlt) (by omega) (by rw [HN2.out]; rfl) (by rw [HN2.out]) (by rw [HN2.out]) (by rw [HN2.out]) (by rw [HN2.out])
        rw [List.set_set] at S2
        have HT4 : Hid (Touch _ w (w2.setCell ⟨g, j * 4 + 1, none⟩ (.string (mk (z + 1))))) := HT3.trans (Touch.set HGB.out)
        have HL3 : Hid (nn = (us.set j ⟨⟨mk z, mk (z + 1), t.T.bits, t.T.blocks⟩, t.vb, t.vk⟩).length) := by unfold Hid; rw [List.length_set]; exact HLN.out.symm
        have HN3 : Hid (nthT (us.set j (⟨⟨mk z, mk (z + 1), t.T.bits, t.T.blocks⟩, t.vb, t.vk⟩ : TV)) j = (⟨⟨mk z, mk (z + 1), t.T.bits, t.T.blocks⟩, t.vb, t.vk⟩ : TV)) := nthT_set_same hlu (⟨⟨mk z, mk (z + 1), t.T.bits, t.T.blocks⟩, t.vb, t.vk⟩ : TV)
        have hrow3 : (w2.setCell ⟨g, j * 4 + 1, none⟩ (.string (mk (z + 1)))).ownsRow B 72 4 (.slice (some ⟨g, 0, none⟩) nn cap) nn (TVs (us.set j ⟨⟨mk z, mk (z + 1), t.T.bits, t.T.blocks⟩, t.vb, t.vk⟩)) := by have := S2.row; unfold OwnT at this; rw [← HL3.out] at this; exact this
        have g2 := (ownT_cells hrow3 HL3.out j hlt).2.2.1
        rw [HN3.out] at g2
        have hin3 := (inT_at.1 S2.ins) j (by rw [← HL3.out]; exact hlt)
        rw [HN3.out] at hin3
        have HS2 : Hid (OwnTs _ _ _ _) := S2
        have HIN3 : Hid (_ ∧ _) := hin3
        clear HO2 HT3 hrow2 hrow3 HL2 HN2 S2 HS1 HT2 hb2 hin3 d0 f0
        -- THE NUMBERS
        go_wp2_with fail
        refine (imark_at t.vb t.T.bits B _ (z + 2) _ (by omega) (by have := HBN.out; omega) HIN3.out.1).mono ?_
        rintro e w3 ⟨rfl, hi3, hg3⟩
        have S3 : OwnTs w3 B (.slice (some ⟨g, 0, none⟩) nn cap) ((us.set j ⟨⟨mk z, mk (z + 1), t.T.bits, t.T.blocks⟩, t.vb, t.vk⟩).set j ⟨⟨mk z, mk (z + 1), imarks (z + 2) t.T.bits.length, t.T.blocks⟩, t.vb, t.vk⟩) := ts_bits HS2.out (by rw [← HL3.out]; exact hlt) (by rw [HN3.out]; rfl) (by rw [HN3.out]) hi3 hg3
        rw [List.set_set, ← HBN.out] at S3
        have HT5 : Hid (Touch _ w w3) := HT4.out.trans (Touch.of_grown hg3 (fun q hq => HSUB.out q (List.mem_append_left _ (mem_oneB.2 hq))))
        have HL4 : Hid (nn = (us.set j ⟨⟨mk z, mk (z + 1), imarks (z + 2) bn, t.T.blocks⟩, t.vb, t.vk⟩).length) := by unfold Hid; rw [List.length_set]; exact HLN.out.symm
        have HN4 : Hid (nthT (us.set j (⟨⟨mk z, mk (z + 1), imarks (z + 2) bn, t.T.blocks⟩, t.vb, t.vk⟩ : TV)) j = (⟨⟨mk z, mk (z + 1), imarks (z + 2) bn, t.T.blocks⟩, t.vb, t.vk⟩ : TV)) := nthT_set_same hlu (⟨⟨mk z, mk (z + 1), imarks (z + 2) bn, t.T.blocks⟩, t.vb, t.vk⟩ : TV)
        have hrow4 : w3.ownsRow B 72 4 (.slice (some ⟨g, 0, none⟩) nn cap) nn (TVs (us.set j ⟨⟨mk z, mk (z + 1), imarks (z + 2) bn, t.T.blocks⟩, t.vb, t.vk⟩)) := by have := S3.row; unfold OwnT at this; rw [← HL4.out] at this; exact this
        have g3 := (ownT_cells hrow4 HL4.out j hlt).2.2.2
        rw [HN4.out] at g3
        have hin4 := (inT_at.1 S3.ins) j (by rw [← HL4.out]; exact hlt)
        rw [HN4.out] at hin4
        have HS3 : Hid (OwnTs _ _ _ _) := S3
        have HIN4 : Hid (_ ∧ _) := hin4
        rw [← HBN.out]
        clear hrow4 S3 HS2 HIN3 HT4 hg3 hi3 hin4 d1 f1 g2 HL3 HN3
        -- THE BLOCKS
        go_wp2_with fail
        refine (smark_at t.vk t.T.blocks B _ (z + 2 + bn) _ (by omega) (by omega) (by have := HKN.out; omega) HIN4.out.2).mono ?_
        rintro e w4 ⟨rfl, hk4, hg4⟩
        have S4 : OwnTs w4 B (.slice (some ⟨g, 0, none⟩) nn cap) ((us.set j ⟨⟨mk z, mk (z + 1), imarks (z + 2) bn, t.T.blocks⟩, t.vb, t.vk⟩).set j (mkT z t)) := ts_blocks HS3.out (by rw [← HL4.out]; exact hlt) (by rw [HN4.out]; rfl) (by rw [HN4.out]; show imarks (z + 2) t.T.bits.length = imarks (z + 2) bn; rw [HBN.out]) (by show OwnS w4 B t.vk (smarks (z + 2 + t.T.bits.length) t.T.blocks.length); rw [← HBN.out]; exact hk4) hg4
        rw [List.set_set, HSTP.out] at S4
        have HT6 : Hid (Touch _ w w4) := HT5.out.trans (Touch.of_grown hg4 (fun q hq => HSUB.out q (List.mem_append_right _ (mem_oneB.2 hq))))
        have HS4 : Hid (OwnTs _ _ _ _) := S4
        rw [← HKN.out]
        obtain ⟨z2, hz2⟩ : ∃ z2, z2 = z + 2 + bn + kn := ⟨_, rfl⟩
        rw [← hz2]
        have HZ2 : Hid (z2 = k + cntT (ts.take (j + 1))) := by rw [hz2]; exact HZN.out
        clear S4 HS3 HIN4 HT5 hg4 hk4 g3 HL4 HN4 hz2 HZN
        go_wp2
        go_roundw
        case rel => exact ⟨j + 1, z2, by omega, by go_num, rfl, HZ2, HS4, HT6⟩
        case measure => simp [intOf]; omega
      · have hje : j = nn := by omega
        have END : Hid (MarkTs w B k (.slice (some ⟨g, 0, none⟩) nn cap) ts (.returned (.int .i64 (z : Int))) wr) := by
          have h1 := HZ.out
          have h2 := HO.out
          rw [hje, HNN.out, List.take_length] at h1
          rw [hje, HNN.out, List.drop_length, List.append_nil] at h2
          refine ⟨by rw [h1], ?_, HT.out⟩
          rw [← HNN.out] at h2 ⊢
          exact h2
        clear hje HO HT HZ
        go_wp2
        go_ret
        exact END.out
theorem OwnTs.touch {bs : List Nat} {w w' : World} {B : Nat} {v : Value} {ts : List TV} (h : OwnTs w B v ts) (ht : Touch bs w w') (hn : ∀ k ∈ oneB v ++ tblks ts, k ∉ bs) : OwnTs w' B v ts :=
  ⟨ht.row h.row (fun k hk => hn k (List.mem_append_left _ (mem_oneB.2 hk))), fun t hm => ⟨ht.row (h.ins t hm).1 (fun k hk => hn k (List.mem_append_right _ (blk_sub hm (List.mem_append_left _ (mem_oneB.2 hk))))), ht.row (h.ins t hm).2 (fun k hk => hn k (List.mem_append_right _ (blk_sub hm (List.mem_append_right _ (mem_oneB.2 hk)))))⟩, h.nod⟩
theorem tblks_tmkTo {k : Nat} {ts : List TV} : ∀ i, i ≤ ts.length → tblks (tmkTo k ts i ++ ts.drop i) = tblks ts
  | 0, _ => rfl
  | i + 1, h => by
    have hi : i < ts.length := by omega
    rw [← tmk_step hi, tblks_set (by rw [tmk_len (by omega)]; exact hi) (by rw [tmk_nth hi]; rfl) (by rw [tmk_nth hi]; rfl)]
    exact tblks_tmkTo i (by omega)
theorem tblks_tmk (k : Nat) (ts : List TV) : tblks (tmkTo k ts ts.length) = tblks ts := by
  have := tblks_tmkTo (k := k) (ts := ts) ts.length (Nat.le_refl _)
  rwa [List.drop_length, List.append_nil] at this
def mkTr (k : Nat) (Y : TrX) : TrX := ⟨Y.vm, Y.vy, Y.vo, Y.vs, emarks k Y.mem.length, tmkTo (k + 4 * Y.mem.length) Y.ys Y.ys.length, tmkTo (k + 4 * Y.mem.length + cntT Y.ys) Y.os Y.os.length, Y.seq, imarks (k + 4 * Y.mem.length + cntT Y.ys + cntT Y.os) Y.snaps.length⟩
def cntTr (Y : TrX) : Nat := 4 * Y.mem.length + cntT Y.ys + cntT Y.os + Y.snaps.length
theorem trB_mk (k : Nat) (Y : TrX) : trB (mkTr k Y) = trB Y := by
  unfold trB mkTr
  simp only [tblks_tmk]
structure Room (k : Nat) (Y : TrX) : Prop where
  mem : k + 4 * Y.mem.length ≤ 4194305
  ys : Y.ys = [] ∨ k + 4 * Y.mem.length + cntT Y.ys ≤ 4194304
  os : Y.os = [] ∨ k + 4 * Y.mem.length + cntT Y.ys + cntT Y.os ≤ 4194304
  all : k + cntTr Y ≤ 1073741824
def MarkTr (w : World) (B k : Nat) (Y : TrX) (e : Ending) (w' : World) : Prop :=
  e = .returned (.int .i64 ((k + cntTr Y : Nat) : Int)) ∧ OwnTree w' B (mkTr k Y) ∧ Touch (trB Y) w w'
theorem markTree_any (Y : TrX) (B k : Nat) (w : World) (ho : OwnTree w B Y) (hk0 : 0 < k) (hr : Room k Y) :
    Calls Tryz.prog 14 #[.agg #[Y.vm, Y.vy, Y.vo, .int .i64 Y.seq, Y.vs], .int .i64 (k : Int)] w fun e w' => MarkTr w B k Y e w' := by
  obtain ⟨r1, r2, r3, r4⟩ := hr
  have hnod := ho.nod
  have NOD : Hid ((trB Y).Nodup) := hnod
  unfold trB at hnod
  obtain ⟨-, hn2, hd1⟩ := List.nodup_append.1 hnod
  obtain ⟨-, hn3, hd2⟩ := List.nodup_append.1 hn2
  obtain ⟨-, -, hd3⟩ := List.nodup_append.1 hn3
  have hny : (oneB Y.vy ++ tblks Y.ys).Nodup := (List.nodup_append.1 hn2).1
  have hno : (oneB Y.vo ++ tblks Y.os).Nodup := (List.nodup_append.1 hn3).1
  have D1 : Hid (∀ a ∈ oneB Y.vm, ∀ b ∈ (oneB Y.vy ++ tblks Y.ys) ++ ((oneB Y.vo ++ tblks Y.os) ++ oneB Y.vs), a ≠ b) := hd1
  have D2 : Hid (∀ a ∈ oneB Y.vy ++ tblks Y.ys, ∀ b ∈ (oneB Y.vo ++ tblks Y.os) ++ oneB Y.vs, a ≠ b) := hd2
  have D3 : Hid (∀ a ∈ oneB Y.vo ++ tblks Y.os, ∀ b ∈ oneB Y.vs, a ≠ b) := hd3
  have HM : Hid (∀ W, OwnE W B Y.vm Y.mem → Calls Tryz.prog 39 #[Y.vm, .int .i64 (k : Int)] W fun e w' => e = .returned (.int .i64 ((k : Int) + 4 * (Y.mem.length : Int))) ∧ OwnE w' B Y.vm (emarks k Y.mem.length) ∧ W.grownBy w' Y.vm.ownBlock) := fun W h => emark_any _ _ B k W hk0 r1 h
  obtain ⟨k1, hk1⟩ : ∃ k1, k1 = k + 4 * Y.mem.length := ⟨_, rfl⟩
  obtain ⟨k2, hk2⟩ : ∃ k2, k2 = k1 + cntT Y.ys := ⟨_, rfl⟩
  obtain ⟨k3, hk3⟩ : ∃ k3, k3 = k2 + cntT Y.os := ⟨_, rfl⟩
  have HY : Hid (∀ W, OwnTs W B Y.vy Y.ys → Calls Tryz.prog 40 #[Y.vy, .int .i64 (k1 : Int)] W fun e w' => e = .returned (.int .i64 (k2 : Int)) ∧ OwnTs w' B Y.vy (tmkTo k1 Y.ys Y.ys.length) ∧ Touch (oneB Y.vy ++ tblks Y.ys) W w') := fun W h => by
    have := markTabs_any Y.vy Y.ys B k1 W h (by omega) (by rw [hk1]; exact r2)
    unfold MarkTs at this; rw [← hk2] at this; exact this
  have HO : Hid (∀ W, OwnTs W B Y.vo Y.os → Calls Tryz.prog 40 #[Y.vo, .int .i64 (k2 : Int)] W fun e w' => e = .returned (.int .i64 (k3 : Int)) ∧ OwnTs w' B Y.vo (tmkTo k2 Y.os Y.os.length) ∧ Touch (oneB Y.vo ++ tblks Y.os) W w') := fun W h => by
    have := markTabs_any Y.vo Y.os B k2 W h (by omega) (by rw [hk2, hk1]; exact r3)
    unfold MarkTs at this; rw [← hk3] at this; exact this
  have HS : Hid (∀ W, OwnI W B Y.vs Y.snaps → Calls Tryz.prog 41 #[Y.vs, .int .i64 (k3 : Int)] W fun e w' => e = .returned (.int .i64 ((k3 + Y.snaps.length : Nat) : Int)) ∧ OwnI w' B Y.vs (imarks k3 Y.snaps.length) ∧ W.grownBy w' Y.vs.ownBlock) := fun W h => imark_any _ _ B k3 W (by unfold cntTr at r4; omega) h
  have HEQ : Hid (k3 + Y.snaps.length = k + cntTr Y) := by unfold Hid cntTr; omega
  have HMK : Hid (mkTr k Y = ⟨Y.vm, Y.vy, Y.vo, Y.vs, emarks k Y.mem.length, tmkTo k1 Y.ys Y.ys.length, tmkTo k2 Y.os Y.os.length, Y.seq, imarks k3 Y.snaps.length⟩) := by unfold Hid mkTr; rw [hk3, hk2, hk1]
  have HK1 : Hid ((k : Int) + 4 * (Y.mem.length : Int) = (k1 : Int)) := by unfold Hid; omega
  have hk3b : k3 + Y.snaps.length ≤ 1073741824 := by rw [HEQ.out]; exact r4
  rw [HK1.out] at HM
  have HTB : Hid ((∀ q ∈ oneB Y.vm, q ∈ trB Y) ∧ (∀ q ∈ oneB Y.vy ++ tblks Y.ys, q ∈ trB Y) ∧ (∀ q ∈ oneB Y.vo ++ tblks Y.os, q ∈ trB Y) ∧ (∀ q ∈ oneB Y.vs, q ∈ trB Y)) := by
    unfold Hid trB
    exact ⟨fun q hq => List.mem_append_left _ hq, fun q hq => List.mem_append_right _ (List.mem_append_left _ hq), fun q hq => List.mem_append_right _ (List.mem_append_right _ (List.mem_append_left _ hq)), fun q hq => List.mem_append_right _ (List.mem_append_right _ (List.mem_append_right _ hq))⟩
  clear hk1 hk2 hk3 r1 r2 r3 r4 hnod hn2 hn3 hd1 hd2 hd3 HK1
  have t0 := treAt_new w Y 33
  have b0 := below1 w (.cells #[Y.vm, Y.vy, Y.vo, .int .i64 Y.seq, Y.vs] 33)
  have hb0 : w.heap.size < (w.alloc (.cells #[Y.vm, Y.vy, Y.vo, .int .i64 Y.seq, Y.vs] 33)).heap.size := by simp
  have ho0 := ho.below b0
  have NB : Hid (∀ q ∈ trB Y, q < w.heap.size) := fun q hq => (ho.bound hq).2
  have T0 : Hid (Touch (trB Y) w (w.alloc (.cells #[Y.vm, Y.vy, Y.vo, .int .i64 Y.seq, Y.vs] 33))) := Touch.of_below b0
  obtain ⟨q0, q1, q2, q3, q4⟩ := id t0
  have OY : OwnTs _ B Y.vy Y.ys := ⟨ho0.young, ho0.youngs, hny⟩
  have OO : OwnTs _ B Y.vo Y.os := ⟨ho0.old, ho0.olds, hno⟩
  have hm0 := ho0.mem
  have hs0 := ho0.snaps
  clear ho b0 hny hno ho0
  go_enter Tryz.func14, Tryz.ntmps14
  go_wp2_with fail
  generalize w.alloc (.cells #[Y.vm, Y.vy, Y.vo, .int .i64 Y.seq, Y.vs] 33) = W0 at t0 hb0 T0 OY OO hm0 hs0 q0 q1 q2 q3 q4 ⊢
  refine (HM.out _ hm0).mono ?_
  rintro e w1 ⟨rfl, hm1, hg1⟩
  have tch1 : Touch (oneB Y.vm) W0 w1 := Touch.of_grown hg1 (fun q hq => mem_oneB.2 hq)
  have t1 : TreAt w1 w.heap.size Y := t0.of_block (tch1.block _ hb0 (fun e => by have := NB.out _ (HTB.out.1 _ e); omega))
  have OY1 := OY.touch tch1 (fun q hq e => D1.out q e q (List.mem_append_left _ hq) rfl)
  have OO1 := OO.touch tch1 (fun q hq e => D1.out q e q (List.mem_append_right _ (List.mem_append_left _ hq)) rfl)
  have hs1 : OwnI w1 B Y.vs Y.snaps := tch1.row hs0 (fun q hq e => D1.out q e q (List.mem_append_right _ (List.mem_append_right _ (mem_oneB.2 hq))) rfl)
  have T1 : Hid (Touch (trB Y) w w1) := T0.out.trans (tch1.more HTB.out.1)
  have hb1 : w.heap.size < w1.heap.size := Nat.lt_of_lt_of_le hb0 tch1.size
  clear t0 hb0 T0 OY OO hm0 hs0 q0 q1 q2 q3 q4 hg1 tch1 HM
  obtain ⟨q0, q1, q2, q3, q4⟩ := id t1
  go_wp2_with fail
  refine (HY.out _ OY1).mono ?_
  rintro e w2 ⟨rfl, hy2, tch2⟩
  have t2 : TreAt w2 w.heap.size Y := t1.of_block (tch2.block _ hb1 (fun e => by have := NB.out _ (HTB.out.2.1 _ e); omega))
  have hm2 : OwnE w2 B Y.vm (emarks k Y.mem.length) := tch2.row hm1 (fun q hq e => D1.out q (mem_oneB.2 hq) q (List.mem_append_left _ e) rfl)
  have OO2 := OO1.touch tch2 (fun q hq e => D2.out q e q (List.mem_append_left _ hq) rfl)
  have hs2 : OwnI w2 B Y.vs Y.snaps := tch2.row hs1 (fun q hq e => D2.out q e q (List.mem_append_right _ (mem_oneB.2 hq)) rfl)
  have T2 : Hid (Touch (trB Y) w w2) := T1.out.trans (tch2.more HTB.out.2.1)
  have hb2 : w.heap.size < w2.heap.size := Nat.lt_of_lt_of_le hb1 tch2.size
  clear t1 hb1 T1 OY1 OO1 hm1 hs1 q0 q1 q2 q3 q4 tch2 HY
  obtain ⟨q0, q1, q2, q3, q4⟩ := id t2
  go_wp2_with fail
  refine (HO.out _ OO2).mono ?_
  rintro e w3 ⟨rfl, ho3, tch3⟩
  have t3 : TreAt w3 w.heap.size Y := t2.of_block (tch3.block _ hb2 (fun e => by have := NB.out _ (HTB.out.2.2.1 _ e); omega))
  have hm3 : OwnE w3 B Y.vm (emarks k Y.mem.length) := tch3.row hm2 (fun q hq e => D1.out q (mem_oneB.2 hq) q (List.mem_append_right _ (List.mem_append_left _ e)) rfl)
  have hy3 := hy2.touch tch3 (fun q hq e => by rw [tblks_tmk] at hq; exact D2.out q hq q (List.mem_append_left _ e) rfl)
  have hs3 : OwnI w3 B Y.vs Y.snaps := tch3.row hs2 (fun q hq e => D3.out q e q (mem_oneB.2 hq) rfl)
  have T3 : Hid (Touch (trB Y) w w3) := T2.out.trans (tch3.more HTB.out.2.2.1)
  clear t2 hb2 T2 OO2 hm2 hs2 hy2 q0 q1 q2 q3 q4 tch3 HO
  obtain ⟨q0, q1, q2, q3, q4⟩ := id t3
  go_wp2_with fail
  refine (HS.out _ hs3).mono ?_
  rintro e w4 ⟨rfl, hs4, hg4⟩
  have tch4 : Touch (oneB Y.vs) w3 w4 := Touch.of_grown hg4 (fun q hq => mem_oneB.2 hq)
  have hm4 : OwnE w4 B Y.vm (emarks k Y.mem.length) := tch4.row hm3 (fun q hq e => D1.out q (mem_oneB.2 hq) q (List.mem_append_right _ (List.mem_append_right _ e)) rfl)
  have hy4 := hy3.touch tch4 (fun q hq e => by rw [tblks_tmk] at hq; exact D2.out q hq q (List.mem_append_right _ e) rfl)
  have ho4 := ho3.touch tch4 (fun q hq e => by rw [tblks_tmk] at hq; exact D3.out q hq q e rfl)
  have END : Hid (MarkTr w B k Y (.returned (.int .i64 ((k3 + Y.snaps.length : Nat) : Int))) w4) := by
    refine ⟨by rw [HEQ.out], ?_, T3.out.trans (tch4.more HTB.out.2.2.2)⟩
    rw [HMK.out]
    refine ⟨hm4, hy4.row, hy4.ins, ho4.row, ho4.ins, hs4, ?_⟩
    rw [← HMK.out, trB_mk]
    exact NOD.out
  clear t3 hm3 hy3 hs3 ho3 q0 q1 q2 q3 q4 hg4 tch4 HS hm4 hy4 ho4 hs4 D1 D2 D3
  go_wp2
  go_ret
  exact END.out
open Go.RowKit
theorem cntT_two (ts : List TV) : cntT ts ≤ 2 * tsz ts ∧ (ts ≠ [] → 0 < tsz ts) := by
  induction ts with
  | nil => exact ⟨Nat.le_refl _, fun h => absurd rfl h⟩
  | cons a r ih =>
    have e1 : cntT (a :: r) = (2 + a.T.bits.length + a.T.blocks.length) + cntT r := by simp [cntT]
    have e2 : tsz (a :: r) = (1 + a.T.bits.length + a.T.blocks.length) + tsz r := by simp [tsz]
    have := ih.1
    exact ⟨by omega, fun _ => by omega⟩
theorem SmallTr.room {X : TrX} (h : SmallTr X) : Room 1 X := by
  have hs := h.sum
  obtain ⟨y1, y2⟩ := cntT_two X.ys
  obtain ⟨o1, o2⟩ := cntT_two X.os
  refine ⟨by omega, ?_, ?_, by unfold cntTr; omega⟩
  · by_cases hy : X.ys = []
    · exact .inl hy
    · have := y2 hy
      exact .inr (by omega)
  · by_cases hy : X.os = []
    · exact .inl hy
    · have := o2 hy
      exact .inr (by omega)
theorem tsz_same {us vs : List TV} (h : us.map (·.T) = vs.map (·.T)) : tsz us = tsz vs := by
  have e : ∀ ts : List TV, tsz ts = ((ts.map (·.T)).map (fun T : Tbl => 1 + T.bits.length + T.blocks.length)).sum := fun ts => by unfold tsz; rw [List.map_map]; rfl
  rw [e, e, h]
theorem small_same {X Y : TrX} (h : Y.tre = X.tre) (hf : SmallTr X) : SmallTr Y := by
  have hmem : Y.mem = X.mem := congrArg Tre.mem h
  have hyo : Y.ys.map (·.T) = X.ys.map (·.T) := congrArg Tre.young h
  have hol : Y.os.map (·.T) = X.os.map (·.T) := congrArg Tre.old h
  have hsn : Y.snaps = X.snaps := congrArg Tre.snaps h
  refine ⟨by rw [hmem, hsn, tsz_same hyo, tsz_same hol]; exact hf.sum, by rw [hmem]; exact hf.mem, fun t ht => ?_, fun t ht => ?_⟩
  · have : t.T ∈ X.ys.map (·.T) := by rw [← hyo]; exact List.mem_map_of_mem ht
    obtain ⟨u, hu, e⟩ := List.mem_map.1 this
    rw [← e]; exact hf.young u hu
  · have : t.T ∈ X.os.map (·.T) := by rw [← hol]; exact List.mem_map_of_mem ht
    obtain ⟨u, hu, e⟩ := List.mem_map.1 this
    rw [← e]; exact hf.old u hu
theorem Touch.tre {bs : List Nat} {w w' : World} {b : Nat} {X : TrX} (h : Touch bs w w') (ht : TreAt w b X) (hn : b ∉ bs) : TreAt w' b X := ht.of_block (h.block b ht.lt hn)
end Go.Proofs.YtbefmbjlogkmbaaGreat
