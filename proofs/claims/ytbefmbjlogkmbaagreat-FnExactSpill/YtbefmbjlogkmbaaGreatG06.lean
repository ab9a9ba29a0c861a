/- The contracts of the two Commons: how many bytes two texts begin with alike. The contract of the cursor's method entryBehind: an entry is read where the cursor stands, in the one way in which it is written, and the cursor goes on behind it. The contract of the program's comparison of two entries. -/
import Derived.BigQuiet
import Derived.Test.YtbefmbjlogkmbaaGreatG05
import Derived.Deep.RegionHeld3
namespace Go.Proofs.YtbefmbjlogkmbaaGreat
set_option maxHeartbeats 16000000
set_option maxRecDepth 100000
open Go.RowKit
theorem drew2 (w : World) (n q : Nat) : (w.drewN n).drewN q = w.drewN (n + q) := by simp
theorem byte_same {a b : UInt8} (h : a = b) : ((a.toNat : Int) == (b.toNat : Int)) = true := by subst h; simp
theorem byte_other {a b : UInt8} (h : a ≠ b) : ((a.toNat : Int) == (b.toNat : Int)) = false := by
  simp only [beq_eq_false_iff_ne, ne_eq]
  intro e
  exact h (UInt8.toNat_inj.1 (by omega))
theorem byte_sameN {a b : UInt8} (h : a = b) : ((a.toNat : Int) != (b.toNat : Int)) = false := by subst h; simp
theorem byte_otherN {a b : UInt8} (h : a ≠ b) : ((a.toNat : Int) != (b.toNat : Int)) = true := by
  simp only [bne_iff_ne, ne_eq]
  intro e
  exact h (UInt8.toNat_inj.1 (by omega))
theorem com_end {a b : ByteArray} {c k : Nat} (h : c = k + comB (a.data.toList.drop k) (b.data.toList.drop k)) (hk : a.size ≤ k ∨ b.size ≤ k) : c = k := by
  rw [comB_end (by rw [size_length, size_length]; exact hk)] at h; exact h
theorem com_ne {a b : ByteArray} {c k : Nat} (h : c = k + comB (a.data.toList.drop k) (b.data.toList.drop k)) (h1 : k < a.size) (h2 : k < b.size) (hn : a[k] ≠ b[k]) : c = k := by
  rw [comB_ne (by rw [size_length]; exact h1) (by rw [size_length]; exact h2) hn] at h; exact h
theorem com_eq {a b : ByteArray} {c k : Nat} (h : c = k + comB (a.data.toList.drop k) (b.data.toList.drop k)) (h1 : k < a.size) (h2 : k < b.size) (hn : a[k] = b[k]) : c = (k + 1) + comB (a.data.toList.drop (k + 1)) (b.data.toList.drop (k + 1)) := by
  rw [comB_eq (by rw [size_length]; exact h1) (by rw [size_length]; exact h2) hn] at h; omega
theorem specCommon_any (a b : ByteArray) (w : World) (ha : a.size ≤ 4503599627370496) (_ : b.size ≤ 4503599627370496) :
    Calls Tryz.prog 128 #[.string a, .string b] w fun e w' => e = .returned (.int .i64 (com a b : Int)) ∧ ∃ n, w' = w.drewN n := by
  obtain ⟨c, hc⟩ : ∃ c, c = com a b := ⟨_, rfl⟩
  rw [← hc]
  have HC : Hid (c = comB a.data.toList b.data.toList) := hc
  clear hc
  go_enter Tryz.func128, Tryz.ntmps128
  go_wp2
  go_loopw [5] (fun i wr => ∃ k : Nat, k ≤ a.size ∧ k ≤ b.size ∧ i = .int .i64 k ∧ Hid (c = k + comB (a.data.toList.drop k) (b.data.toList.drop k)) ∧ ∃ n, wr = w.drewN n) (fun i _ => a.size - (intOf i).toNat)
  case atStart => exact ⟨0, Nat.zero_le _, Nat.zero_le _, rfl, by unfold Hid; rw [HC.out]; simp, 0, rfl⟩
  case round =>
    obtain ⟨k, hka, hkb, rfl, HK, n, rfl⟩ := hrel
    clear HC
    by_cases h1 : k < a.size
    · have d1 : decide ((k : Int) < (a.size : Int)) = true := by simp; omega
      by_cases h2 : k < b.size
      · have d2 : decide ((k : Int) < (b.size : Int)) = true := by simp; omega
        by_cases h3 : a[k] = b[k]
        · have d3 := byte_same h3
          have HN : Hid (c = (k + 1) + comB (a.data.toList.drop (k + 1)) (b.data.toList.drop (k + 1))) := com_eq HK.out h1 h2 h3
          clear h3 HK
          go_wp2
          go_quiet (fail)
          go_wp2
          go_roundw
          case rel => exact ⟨k + 1, by omega, by omega, by go_num, HN, n + _, rfl⟩
          case measure => simp [intOf]; omega
        · have d3 := byte_other h3
          have HN : Hid (c = k) := com_ne HK.out h1 h2 h3
          clear h3 HK
          go_wp2
          go_quiet (fail)
          go_wp2
          go_ret
          exact ⟨by have h := HN.out; subst h; rfl, n + _, drew2 _ _ _⟩
      · have d2 : decide ((k : Int) < (b.size : Int)) = false := by simp; omega
        have HN : Hid (c = k) := com_end HK.out (.inr (by omega))
        clear HK
        go_wp2
        go_quiet (fail)
        go_wp2
        go_ret
        exact ⟨by have h := HN.out; subst h; rfl, n + _, drew2 _ _ _⟩
    · have d1 : decide ((k : Int) < (a.size : Int)) = false := by simp; omega
      have HN : Hid (c = k) := com_end HK.out (.inl (by omega))
      clear HK
      go_wp2
      go_quiet (fail)
      go_wp2
      go_ret
      exact ⟨by have h := HN.out; subst h; rfl, n + _, drew2 _ _ _⟩
theorem implCommon_any (a b : ByteArray) (w : World) (ha : a.size ≤ 4503599627370496) (hb : b.size ≤ 4503599627370496) :
    Calls Tryz.prog 150 #[.string a, .string b] w fun e w' => e = .returned (.int .i64 (com a b : Int)) ∧ ∃ n, w' = w.drewN n := by
  obtain ⟨c, hc⟩ : ∃ c, c = com a b := ⟨_, rfl⟩
  rw [← hc]
  have HC : Hid (c = comB a.data.toList b.data.toList) := hc
  clear hc
  go_enter Tryz.func150, Tryz.ntmps150
  go_wp2
  all_goals
    go_loopw [13] (fun i wr => ∃ k : Nat, k ≤ a.size ∧ k ≤ b.size ∧ i = .int .i64 k ∧ Hid (c = k + comB (a.data.toList.drop k) (b.data.toList.drop k)) ∧ ∃ n, wr = w.drewN n) (fun i _ => a.size - (intOf i).toNat)
    case atStart => exact ⟨0, Nat.zero_le _, Nat.zero_le _, rfl, by unfold Hid; rw [HC.out]; simp, 0, rfl⟩
    case round =>
      obtain ⟨k, hka, hkb, rfl, HK, n, rfl⟩ := hrel
      clear HC
      by_cases h1 : k < a.size
      · by_cases h2 : k < b.size
        · by_cases h3 : a[k] = b[k]
          · have d3 := byte_sameN h3
            have HN : Hid (c = (k + 1) + comB (a.data.toList.drop (k + 1)) (b.data.toList.drop (k + 1))) := com_eq HK.out h1 h2 h3
            clear h3 HK
            go_wp2
            go_quiet (fail)
            go_wp2
            go_roundw
            case rel => exact ⟨k + 1, by omega, by omega, by go_num, HN, n + _, rfl⟩
            case measure => simp [intOf]; omega
          · have d3 := byte_otherN h3
            have HN : Hid (c = k) := com_ne HK.out h1 h2 h3
            clear h3 HK
            go_wp2
            go_quiet (fail)
            go_wp2
            go_ret
            exact ⟨by have h := HN.out; subst h; rfl, n + _, drew2 _ _ _⟩
        · first
            | (exfalso; omega)
            | (have HN : Hid (c = k) := com_end HK.out (.inr (by omega))
               have hke : k = b.size := by omega
               subst hke
               clear HK
               go_wp2
               go_ret
               exact ⟨by have h := HN.out; subst h; rfl, n, rfl⟩)
      · first
          | (exfalso; omega)
          | (have HN : Hid (c = k) := com_end HK.out (.inl (by omega))
             have hke : k = a.size := by omega
             subst hke
             clear HK
             go_wp2
             go_ret
             exact ⟨by have h := HN.out; subst h; rfl, n, rfl⟩)
open Go.RowKit
theorem Cur.ltE {w0 w : World} {g : Nat} {v : Value} {bs : List UInt8} {p : Nat} (h : Cur w0 w g v bs p) : g < w.heap.size := (Array.getElem?_eq_some_iff.1 h.blk).1
theorem Cur.block {w0 w w' : World} {g : Nat} {v : Value} {bs : List UInt8} {p : Nat} (h : Cur w0 w g v bs p) (hb : w'.heap[g]? = w.heap[g]?) (hl : Below w0.heap.size w0 w') : Cur w0 w' g v bs p := ⟨h.rd, h.ge, hb.trans h.blk, hl, h.le⟩
theorem Cur.below {w0 w w' : World} {g : Nat} {v : Value} {bs : List UInt8} {p : Nat} (h : Cur w0 w g v bs p) (hb : Below w.heap.size w w') : Cur w0 w' g v bs p :=
  h.block (hb.block g h.ltE) (h.bel.trans (hb.mono h.bel.size))
theorem Cur.set4 {w0 w : World} {g c : Nat} {v : Value} {bs : List UInt8} {p : Nat} (h : Cur w0 w g v bs p) (hc : g < c) (u0 u1 u2 u3 : Value) (i j k l : Nat) : Cur w0 ((((w.setCell ⟨c, i, none⟩ u0).setCell ⟨c, j, none⟩ u1).setCell ⟨c, k, none⟩ u2).setCell ⟨c, l, none⟩ u3) g v bs p :=
  h.block ((heap_setCell_other _ ⟨c, l, none⟩ g u3 (Nat.ne_of_lt hc)).trans ((heap_setCell_other _ ⟨c, k, none⟩ g u2 (Nat.ne_of_lt hc)).trans ((heap_setCell_other _ ⟨c, j, none⟩ g u1 (Nat.ne_of_lt hc)).trans (heap_setCell_other w ⟨c, i, none⟩ g u0 (Nat.ne_of_lt hc)))))
    (below4 h.bel (Nat.le_of_lt (Nat.lt_of_le_of_lt h.ge hc)) u0 u1 u2 u3 i j k l)
theorem grewSet {a w : World} {row : Option Nat} {b j : Nat} {u : Value} (h : a.grownBy w row) (hb : a.heap.size ≤ b) : a.grownBy (w.setCell ⟨b, j, none⟩ u) row :=
  ⟨h.os, h.tape, h.output, by simpa using h.size, fun k hk hr => by rw [heap_setCell_other w ⟨b, j, none⟩ k u (by simp; omega)]; exact h.block k hk hr⟩
theorem grewSet4 {a w : World} {row : Option Nat} {b : Nat} (h : a.grownBy w row) (hb : a.heap.size ≤ b) (u0 u1 u2 u3 : Value) (i j k l : Nat) : a.grownBy ((((w.setCell ⟨b, i, none⟩ u0).setCell ⟨b, j, none⟩ u1).setCell ⟨b, k, none⟩ u2).setCell ⟨b, l, none⟩ u3) row :=
  grewSet (grewSet (grewSet (grewSet h hb) hb) hb) hb
theorem grewAlloc (w : World) (o : Obj) (row : Option Nat) : w.grownBy (w.alloc o) row :=
  ⟨rfl, rfl, rfl, by simp, fun k hk _ => (below1 w o).block k hk⟩
theorem grewTrans {a b c : World} {row : Option Nat} (h : a.grownBy b row) (k : b.grownBy c row) : a.grownBy c row :=
  ⟨k.os.trans h.os, k.tape.trans h.tape, k.output.trans h.output, Nat.le_trans h.size k.size, fun i hi hr => (k.block i (Nat.lt_of_lt_of_le hi h.size) hr).trans (h.block i hi hr)⟩
theorem BoxAt.kept {w w' : World} {b g : Nat} {x : Ent} (h : BoxAt w b x) (hg : w.grownBy w' (some g)) (hn : g < b) : BoxAt w' b x := by
  have hb := hg.block b h.1.lt (by simp; omega)
  refine ⟨h.1.of_block hb, fun o => ?_⟩
  have := h.2 o
  unfold World.frozen? at this ⊢
  rw [hb]; exact this
def EntPost (w0 w : World) (g : Nat) (v : Value) (bs : List UInt8) (p : Nat) (r : Option (Ent × Nat)) (e : Ending) (w' : World) : Prop :=
  ∃ (p' : Nat) (x : Ent), e = .returned (.tuple #[.agg #[.string x.key, .string x.val, .int .i64 x.seq, .bool x.gone], .bool r.isSome]) ∧ Cur w0 w' g v bs p' ∧ w.grownBy w' (some g) ∧ ∀ y k, r = some (y, k) → x = y ∧ p' = p + k
theorem entPost_no {w0 w W : World} {g p p' : Nat} {v : Value} {bs : List UInt8} {r : Option (Ent × Nat)} (hr : r = none) (hc : Cur w0 W g v bs p') (hg : w.grownBy W (some g)) (hl : g < w.heap.size) (u0 u1 u2 u3 : Value) (i j k l : Nat) :
    EntPost w0 w g v bs p r (.returned (.tuple #[.agg #[.string ⟨#[]⟩, .string ⟨#[]⟩, .int .i64 0, .bool false], .bool false])) ((((W.setCell ⟨w.heap.size, i, none⟩ u0).setCell ⟨w.heap.size, j, none⟩ u1).setCell ⟨w.heap.size, k, none⟩ u2).setCell ⟨w.heap.size, l, none⟩ u3) :=
  ⟨p', zeroE, by rw [hr]; rfl, hc.set4 hl _ _ _ _ _ _ _ _, grewSet4 hg (Nat.le_refl _) _ _ _ _ _ _ _ _, fun y k h => by rw [hr] at h; cases h⟩
theorem entPost_yes {w0 w W : World} {g p p' n : Nat} {v : Value} {bs : List UInt8} {r : Option (Ent × Nat)} {x : Ent} (hr : r = some (x, n)) (hp : p' = p + n) (hc : Cur w0 W g v bs p') (hg : w.grownBy W (some g)) (hl : g < w.heap.size) (u0 u1 u2 u3 : Value) (i j k l : Nat) :
    EntPost w0 w g v bs p r (.returned (.tuple #[.agg #[.string x.key, .string x.val, .int .i64 x.seq, .bool x.gone], .bool true])) ((((W.setCell ⟨w.heap.size, i, none⟩ u0).setCell ⟨w.heap.size, j, none⟩ u1).setCell ⟨w.heap.size, k, none⟩ u2).setCell ⟨w.heap.size, l, none⟩ u3) :=
  ⟨p', x, by rw [hr]; rfl, hc.set4 hl _ _ _ _ _ _ _ _, grewSet4 hg (Nat.le_refl _) _ _ _ _ _ _ _ _, fun y m h => by rw [hr] at h; obtain ⟨rfl, rfl⟩ := Prod.mk.inj (Option.some.inj h); exact ⟨rfl, hp⟩⟩
theorem rdText_short (bs : List UInt8) : (rdText bs).1.length ≤ 3000 := by
  unfold rdText
  split
  · simp
  · simp only [List.length_take]; omega
theorem key_cut (last : ByteArray) (n : Nat) (l : List UInt8) : last.extract 0 n ++ ⟨l.toArray⟩ = ⟨(last.data.toList.take n ++ l).toArray⟩ := by
  apply ByteArray.ext
  rw [ByteArray.data_append, ByteArray.data_extract]
  apply Array.toList_inj.1
  simp [Array.toList_extract, List.extract_eq_take_drop]
theorem rdParts_go {last key : ByteArray} {a1 a2 t2 s1 s2 v2 : Nat} {t1 v1 : List UInt8} (h1 : ¬ (a2 = 0 ∨ last.size < a1 ∨ t2 = 0)) (hk : key = ⟨(last.data.toList.take a1 ++ t1).toArray⟩) (h2 : com last key = a1) :
    rdParts true last (a1, a2) (t1, t2) (s1, s2) (v1, v2) = if s2 = 0 ∨ v2 = 0 then none else some (⟨key, ⟨v1.toArray⟩, ((s1 / 2 : Nat) : Int), decide (s1 % 2 = 1)⟩, a2 + t2 + s2 + v2) := by
  subst hk
  unfold rdParts
  rw [if_neg h1, if_neg (by rintro ⟨_, hx⟩; exact hx h2)]
theorem odd_eq (s : Nat) : ((s : Int) % 2 == 1) = decide (s % 2 = 1) := by
  by_cases h : s % 2 = 1
  · rw [decide_eq_true h]; simp; omega
  · rw [decide_eq_false h]; simp; omega
theorem entryBehind_any (w0 w : World) (g : Nat) (v : Value) (bs : List UInt8) (p : Nat) (last : ByteArray) (h : Cur w0 w g v bs p) (hls : last.size ≤ 1000000) :
    Calls Tryz.prog 163 #[.pointer (some ⟨g, 0, none⟩), .string last] w fun e w' => EntPost w0 w g v bs p (rdEnt true last (bs.drop p)) e w' := by
  obtain ⟨A, hA⟩ : ∃ A, rdNum (bs.drop p) = A := ⟨_, rfl⟩
  obtain ⟨T, hT⟩ : ∃ T, rdText (bs.drop (p + A.2)) = T := ⟨_, rfl⟩
  obtain ⟨S, hS⟩ : ∃ S, rdNum (bs.drop (p + A.2 + T.2)) = S := ⟨_, rfl⟩
  obtain ⟨V, hV⟩ : ∃ V, rdText (bs.drop (p + A.2 + T.2 + S.2)) = V := ⟨_, rfl⟩
  have RES : rdEnt true last (bs.drop p) = rdParts true last A T S V := rdEnt_parts true last _ A T S V hA (by rw [List.drop_drop]; exact hT) (by rw [List.drop_drop, ← Nat.add_assoc]; exact hS) (by rw [List.drop_drop, ← Nat.add_assoc, ← Nat.add_assoc]; exact hV)
  rw [RES]
  clear RES
  obtain ⟨r, hr⟩ : ∃ r, r = rdParts true last A T S V := ⟨_, rfl⟩
  rw [← hr]
  have HR : Hid (r = rdParts true last A T S V) := hr
  clear hr
  have HNA : Hid (∀ W, Cur w0 W g v bs p → Calls Tryz.prog 157 #[.pointer (some ⟨g, 0, none⟩)] W fun e w' => NumPost w0 W g v bs p A e w') := fun W hW => by rw [← hA]; exact number_any w0 W g v bs p hW
  have HTT : Hid (∀ W, Cur w0 W g v bs (p + A.2) → Calls Tryz.prog 164 #[.pointer (some ⟨g, 0, none⟩)] W fun e w' => TextPost w0 W g v bs (p + A.2) T e w') := fun W hW => by rw [← hT]; exact text_any w0 W g v bs _ hW
  have HNS : Hid (∀ W, Cur w0 W g v bs (p + A.2 + T.2) → Calls Tryz.prog 157 #[.pointer (some ⟨g, 0, none⟩)] W fun e w' => NumPost w0 W g v bs (p + A.2 + T.2) S e w') := fun W hW => by rw [← hS]; exact number_any w0 W g v bs _ hW
  have HTV : Hid (∀ W, Cur w0 W g v bs (p + A.2 + T.2 + S.2) → Calls Tryz.prog 164 #[.pointer (some ⟨g, 0, none⟩)] W fun e w' => TextPost w0 W g v bs (p + A.2 + T.2 + S.2) V e w') := fun W hW => by rw [← hV]; exact text_any w0 W g v bs _ hW
  have hA1 := (rdNum_len (bs.drop p)).2.1
  rw [hA] at hA1
  have hT1 := rdText_short (bs.drop (p + A.2))
  rw [hT] at hT1
  have hS1 := (rdNum_len (bs.drop (p + A.2 + T.2))).2.1
  rw [hS] at hS1
  clear hA hT hS hV
  obtain ⟨a1, a2⟩ := A
  obtain ⟨t1, t2⟩ := T
  obtain ⟨s1, s2⟩ := S
  obtain ⟨v1, v2⟩ := V
  simp only at hA1 hT1 hS1 HNA HTT HNS HTV
  have hgl := h.ltE
  have hz := box_zero w 89
  have hc0 := h.below (below1 w (.cells #[.string ⟨#[]⟩, .string ⟨#[]⟩, .int .i64 0, .bool false] 89))
  have hg0 := grewAlloc w (.cells #[.string ⟨#[]⟩, .string ⟨#[]⟩, .int .i64 0, .bool false] 89) (some g)
  clear h
  go_enter Tryz.func163, Tryz.ntmps163
  go_wp2_with fail
  refine (HNA.out _ hc0).mono ?_
  rintro e w1 ⟨p1, rfl, hc1, hp1, hg1⟩
  have hz1 := hz.kept hg1 hgl
  have hgg1 := grewTrans hg0 hg1
  clear hz hc0 hg0 hg1
  by_cases q0 : a2 = 0
  · skip
    have RES : Hid (r = none) := by unfold Hid; rw [HR.out]; unfold rdParts; rw [if_pos (.inl q0)]
    have hd : decide ((a1, a2).2 ≠ 0) = false := by simp [q0]
    rw [hd]
    obtain ⟨z0, z1, z2, z3, f0, f1, f2, f3⟩ := hz1.facts
    clear hp1 q0 hd
    go_wp2
    exact bodyPost_ret (v := .tuple #[.agg #[.string ⟨#[]⟩, .string ⟨#[]⟩, .int .i64 0, .bool false], .bool false]) (by simp [results, Tryz.results163, go_sem, z0, z1, z2, z3]) rfl (entPost_no RES.out hc1 hgg1 hgl _ _ _ _ _ _ _ _)
  have hd : decide ((a1, a2).2 ≠ 0) = true := by simp [q0]
  rw [hd]
  obtain rfl : p1 = p + a2 := hp1 q0
  clear hp1 hd
  by_cases q1 : last.size < a1
  · skip
    have RES : Hid (r = none) := by unfold Hid; rw [HR.out]; unfold rdParts; rw [if_pos (.inr (.inl q1))]
    obtain ⟨z0, z1, z2, z3, f0, f1, f2, f3⟩ := hz1.facts
    have q1i : (last.size : Int) < (a1 : Int) := by omega
    clear q0
    go_wp2
    exact bodyPost_ret (v := .tuple #[.agg #[.string ⟨#[]⟩, .string ⟨#[]⟩, .int .i64 0, .bool false], .bool false]) (by simp [results, Tryz.results163, go_sem, z0, z1, z2, z3]) rfl (entPost_no RES.out hc1 hgg1 hgl _ _ _ _ _ _ _ _)
  go_wp2_with fail
  refine (HTT.out _ hc1).mono ?_
  rintro e w2 ⟨p2, rfl, hc2, hp2, hg2⟩
  have hz2 := hz1.kept hg2 hgl
  have hgg2 := grewTrans hgg1 hg2
  clear hz1 hc1 hgg1 hg2
  by_cases q2 : t2 = 0
  · skip
    have RES : Hid (r = none) := by unfold Hid; rw [HR.out]; unfold rdParts; rw [if_pos (.inr (.inr q2))]
    have hd : decide ((t1, t2).2 ≠ 0) = false := by simp [q2]
    rw [hd]
    obtain ⟨z0, z1, z2, z3, f0, f1, f2, f3⟩ := hz2.facts
    clear hp2 q2 hd q0
    go_wp2
    exact bodyPost_ret (v := .tuple #[.agg #[.string ⟨#[]⟩, .string ⟨#[]⟩, .int .i64 0, .bool false], .bool false]) (by simp [results, Tryz.results163, go_sem, z0, z1, z2, z3]) rfl (entPost_no RES.out hc2 hgg2 hgl _ _ _ _ _ _ _ _)
  have hd : decide ((t1, t2).2 ≠ 0) = true := by simp [q2]
  rw [hd]
  obtain rfl : p2 = p + a2 + t2 := hp2 q2
  clear hp2 hd
  have hkc := key_cut last a1 t1
  obtain ⟨key, hk⟩ : ∃ key : ByteArray, key = ⟨(last.data.toList.take a1 ++ t1).toArray⟩ := ⟨_, rfl⟩
  have hks : key.size ≤ 1003000 := by
    rw [hk]
    show (last.data.toList.take a1 ++ t1).toArray.size ≤ 1003000
    have := size_length last
    simp only [List.size_toArray, List.length_append, List.length_take]
    omega
  rw [← hk] at hkc
  have HK : Hid (key = ⟨(last.data.toList.take a1 ++ t1).toArray⟩) := hk
  have HKC : Hid (last.extract 0 a1 ++ ⟨t1.toArray⟩ = key) := hkc
  clear hk hkc
  go_wp2_with fail
  rw [HKC.out]
  refine (implCommon_any last key _ (by omega) (by omega)).mono ?_
  rintro e w3 ⟨rfl, n3, rfl⟩
  have hz3 : BoxAt (w2.drewN n3) w.heap.size zeroE := hz2
  have hc3 := hc2.drewN n3
  have hgg3 := grownBy_drewN hgg2 n3
  clear hz2 hc2 hgg2
  generalize w2.drewN n3 = W3 at hz3 hc3 hgg3 ⊢
  have HQ : Hid (¬ (a2 = 0 ∨ last.size < a1 ∨ t2 = 0)) := by unfold Hid; omega
  clear q0 q2
  by_cases q3 : com last key = a1
  · have hne : ((com last key : Int) != (a1 : Int)) = false := by rw [q3]; simp
    have HQ2 : Hid (r = if s2 = 0 ∨ v2 = 0 then none else some (⟨key, ⟨v1.toArray⟩, ((s1 / 2 : Nat) : Int), decide (s1 % 2 = 1)⟩, a2 + t2 + s2 + v2)) := by unfold Hid; rw [HR.out]; exact rdParts_go HQ.out HK.out q3
    clear q3
    generalize com last key = cc at hne ⊢
    go_wp2_with fail
    refine (HNS.out _ hc3).mono ?_
    rintro e w4 ⟨p4, rfl, hc4, hp4, hg4⟩
    have hz4 := hz3.kept hg4 hgl
    have hgg4 := grewTrans hgg3 hg4
    clear hz3 hc3 hgg3 hg4
    by_cases q4 : s2 = 0
    · skip
      have RES : Hid (r = none) := by unfold Hid; rw [HQ2.out, if_pos (.inl q4)]
      have hd : decide ((s1, s2).2 ≠ 0) = false := by simp [q4]
      rw [hd]
      obtain ⟨z0, z1, z2, z3, f0, f1, f2, f3⟩ := hz4.facts
      clear hp4 q4 hd
      go_wp2
      exact bodyPost_ret (v := .tuple #[.agg #[.string ⟨#[]⟩, .string ⟨#[]⟩, .int .i64 0, .bool false], .bool false]) (by simp [results, Tryz.results163, go_sem, z0, z1, z2, z3]) rfl (entPost_no RES.out hc4 hgg4 hgl _ _ _ _ _ _ _ _)
    have hd : decide ((s1, s2).2 ≠ 0) = true := by simp [q4]
    rw [hd]
    obtain rfl : p4 = p + a2 + t2 + s2 := hp4 q4
    clear hp4 hd
    go_wp2_with fail
    refine (HTV.out _ hc4).mono ?_
    rintro e w5 ⟨p5, rfl, hc5, hp5, hg5⟩
    have hz5 := hz4.kept hg5 hgl
    have hgg5 := grewTrans hgg4 hg5
    clear hz4 hc4 hgg4 hg5
    obtain ⟨z0, z1, z2, z3, f0, f1, f2, f3⟩ := hz5.facts
    by_cases q5 : v2 = 0
    · skip
      have RES : Hid (r = none) := by unfold Hid; rw [HQ2.out, if_pos (.inr q5)]
      have hd : decide ((v1, v2).2 ≠ 0) = false := by simp [q5]
      rw [hd]
      clear hp5 q5 hd q4
      go_wp2
      exact bodyPost_ret (v := .tuple #[.agg #[.string ⟨#[]⟩, .string ⟨#[]⟩, .int .i64 0, .bool false], .bool false]) (by simp [results, Tryz.results163, go_sem, z0, z1, z2, z3]) rfl (entPost_no RES.out hc5 hgg5 hgl _ _ _ _ _ _ _ _)
    have hd : decide ((v1, v2).2 ≠ 0) = true := by simp [q5]
    rw [hd]
    obtain rfl : p5 = p + a2 + t2 + s2 + v2 := hp5 q5
    have RES : Hid (r = some (⟨key, ⟨v1.toArray⟩, ((s1 / 2 : Nat) : Int), decide (s1 % 2 = 1)⟩, a2 + t2 + s2 + v2)) := by unfold Hid; rw [HQ2.out, if_neg (by omega)]
    clear hp5 q5 hd q4
    have e1 : (s1 : Int) / 2 = ((s1 / 2 : Nat) : Int) := by omega
    have e2 := odd_eq s1
    have HE1 : Hid ((s1 : Int) / 2 = ((s1 / 2 : Nat) : Int)) := e1
    have HE2 : Hid (((s1 : Int) % 2 == 1) = decide (s1 % 2 = 1)) := e2
    clear e1 e2
    go_wp2
    rw [HE1.out, HE2.out]
    refine bodyPost_ret (v := .tuple #[.agg #[.string key, .string ⟨v1.toArray⟩, .int .i64 ((s1 / 2 : Nat) : Int), .bool (decide (s1 % 2 = 1))], .bool true]) (by simp [results, Tryz.results163, go_sem, z0, z1, z2, z3]) rfl ?_
    exact entPost_yes (x := ⟨key, ⟨v1.toArray⟩, ((s1 / 2 : Nat) : Int), decide (s1 % 2 = 1)⟩) RES.out (by omega) hc5 hgg5 hgl _ _ _ _ _ _ _ _
  · skip
    have hne : ((com last key : Int) != (a1 : Int)) = true := by simp; omega
    have RES : Hid (r = none) := by unfold Hid; rw [HR.out]; unfold rdParts; rw [if_neg HQ.out, if_pos ⟨rfl, by rw [← HK.out]; exact q3⟩]
    clear q3
    generalize com last key = cc at hne ⊢
    obtain ⟨z0, z1, z2, z3, f0, f1, f2, f3⟩ := hz3.facts
    go_wp2
    exact bodyPost_ret (v := .tuple #[.agg #[.string ⟨#[]⟩, .string ⟨#[]⟩, .int .i64 0, .bool false], .bool false]) (by simp [results, Tryz.results163, go_sem, z0, z1, z2, z3]) rfl (entPost_no RES.out hc3 hgg3 hgl _ _ _ _ _ _ _ _)
open Go.RowKit
theorem or_at (x y z : Int) (b : Nat) (w : World) (hz : z = if x ≠ 0 then x else y) (h0 : w.cell? ⟨b, 0, none⟩ = some (.int .i64 x)) (h1 : w.cell? ⟨b, 1, none⟩ = some (.int .i64 y)) (bx : -1 ≤ x ∧ x ≤ 1) (hy1 : -1 ≤ y ∧ y ≤ 1) :
    Calls Tryz.prog 131 #[.slice (some ⟨b, 0, none⟩) 2 2] w fun e w' => e = .returned (.int .i64 z) ∧ w' = w := by
  subst hz; exact or_any x y b w h0 h1 bx hy1
theorem entryOrder_any (a b : Ent) (w : World) :
    Calls Tryz.prog 108 #[.agg #[.string a.key, .string a.val, .int .i64 a.seq, .bool a.gone], .agg #[.string b.key, .string b.val, .int .i64 b.seq, .bool b.gone]] w fun e w' => e = .returned (.int .i64 (ordE a b)) ∧ Below w.heap.size w w' := by
  have bx := cmpK_bd a.key b.key
  have hy1 := cmpI_bd b.seq a.seq
  have hz : Hid (ordE a b = if cmpK a.key b.key ≠ 0 then cmpK a.key b.key else cmpI b.seq a.seq) := rfl
  go_enter Tryz.func108, Tryz.ntmps108
  go_wp2
  go_region_held3 (fun w' => w'.cell? ⟨w.heap.size, 0, none⟩ = some (.string a.key) ∧ w'.cell? ⟨w.heap.size + 1, 0, none⟩ = some (.string b.key) ∧ w'.cell? ⟨w.heap.size, 2, none⟩ = some (.int .i64 a.seq) ∧ w'.cell? ⟨w.heap.size + 1, 2, none⟩ = some (.int .i64 b.seq)) (go_keep)
    (first
      | (go_at_call 132; refine (cmpStr_any _ _ _).mono ?_; rintro e w' ⟨rfl, rfl⟩)
      | (go_at_call 133; refine (cmpInt_any _ _ _).mono ?_; rintro e w' ⟨rfl, rfl⟩)
      | (go_at_call 131; refine (or_at (cmpK a.key b.key) (cmpI b.seq a.seq) (ordE a b) _ _ hz.out (by simp [World.cell?_alloc_at]) (by simp [World.cell?_alloc_at]) bx hy1).mono ?_; rintro e w' ⟨rfl, rfl⟩))
  all_goals go_wp2
  all_goals go_ret
  all_goals exact ⟨rfl, ((below2 _ _ _).alloc (by simp; omega) _).drew⟩
end Go.Proofs.YtbefmbjlogkmbaaGreat
