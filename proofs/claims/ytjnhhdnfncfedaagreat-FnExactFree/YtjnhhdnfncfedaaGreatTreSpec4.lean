/- The contracts of the model's Read and Scan of a tree. -/
import Derived.Test.YtjnhhdnfncfedaaGreatTreSpec3
import Derived.Maps.AppendAt
namespace Go.Proofs.YtjnhhdnfncfedaaGreat
open Go.RowKit
theorem all_okL {T : Tre} (h : TreeP T) (hn : (mergedL (lsT T)).length ≤ 300) : okL (mergedL (lsT T)) = true := by
  apply merged_ok
  unfold mergedOk
  rw [decide_eq_true hn, decide_eq_true (show (lsT T).length ≤ 20 by
    show (T.mem :: (T.young ++ T.old).map entriesL).length ≤ 20
    have := h.young; have := h.old
    simp; omega)]
  simp only [Bool.true_and, Bool.and_true]
  rw [List.all_eq_true]
  intro l hl
  rcases List.mem_cons.1 hl with rfl | hl
  · exact h.mem
  · obtain ⟨t, ht, rfl⟩ := List.mem_map.1 hl
    exact (tableOk_parts (h.full t ht)).1
/-- What Read leaves. -/
def ReadPost (w : World) (o : Option ByteArray) (e : Ending) (w' : World) : Prop := e = .returned (.tuple #[.string (o.getD ⟨#[]⟩), .bool o.isSome]) ∧ Below w.heap.size w w'
theorem readT_no {T : Tre} {k : ByteArray} {q : Int} (h : treeOk T = false) : readT T k q = none := by unfold readT; rw [if_neg (by rw [h]; simp)]
theorem readT_yes {T : Tre} {k : ByteArray} {q : Int} (h : treeOk T = true) : readT T k q = tellE (seenL (allT T).1 k q) := by unfold readT; rw [if_pos h, tree_all ((treeOk_iff T).1 h)]; rfl
set_option maxHeartbeats 4000000 in
set_option maxRecDepth 100000 in
theorem specRead_any (X : TrX) (key : ByteArray) (q : Int) (w : World) (hx : RdTr w X) (hf : FitTr X) :
    Calls Tryz.prog 8 #[.agg #[X.vm, X.vy, X.vo, .int .i64 X.seq, X.vs], .string key, .int .i64 q] w fun e w' => ReadPost w (readT X.tre key q) e w' := by
  have HALL : Hid (∀ W, RdTr W X → Calls Tryz.prog 26 #[.agg #[X.vm, X.vy, X.vo, .int .i64 X.seq, X.vs]] W fun e w' => AllPost W X e w') := fun W h => l7All_any X W h hf
  have HOK : Hid (∀ W, RdTr W X → Calls Tryz.prog 27 #[.agg #[X.vm, X.vy, X.vo, .int .i64 X.seq, X.vs]] W fun e w' => e = .returned (.bool (treeOk X.tre)) ∧ Below W.heap.size W w') := fun W h => specTreeOk_any X W h hf
  have HR1 : Hid (treeOk X.tre = false → readT X.tre key q = none) := readT_no
  have HR2 : Hid (treeOk X.tre = true → readT X.tre key q = tellE (seenL (allT X.tre).1 key q)) := readT_yes
  unfold AllPost at HALL
  generalize readT X.tre key q = R at HR1 HR2 ⊢
  generalize treeOk X.tre = ok at HOK HR1 HR2
  generalize allT X.tre = AT at HALL HR2
  obtain ⟨all, is⟩ := AT
  simp only at HALL HR2
  have ht0 := treAt_new w X 33
  have b0 := below1 w (.cells #[X.vm, X.vy, X.vo, .int .i64 X.seq, X.vs] 33)
  obtain ⟨q0, q1, q2, q3, q4⟩ := id ht0
  go_enter Tryz.func8, Tryz.ntmps8
  go_wp2_with fail
  refine (HALL.out _ (hx.below b0)).mono ?_
  rintro e w1 ⟨u, rfl, ho1, hb1⟩
  have ht1 := ht0.below hb1
  have b1 := b0.trans (hb1.mono b0.size)
  clear HALL ht0 b0 hb1 q0 q1 q2 q3 q4
  obtain ⟨q0, q1, q2, q3, q4⟩ := id ht1
  go_wp2_with fail
  refine (HOK.out _ (hx.below b1)).mono ?_
  rintro e w2 ⟨rfl, hb2⟩
  have hr2 := (ho1.below hb2).rd
  have b2 := b1.trans (hb2.mono b1.size)
  clear HOK ht1 ho1 b1 hb2 q0 q1 q2 q3 q4
  cases ok with
  | false =>
    have HR : Hid (R = none) := HR1.out rfl
    go_wp2
    go_ret2
    exact ⟨by rw [HR.out]; rfl, b2⟩
  | true =>
    have HR : Hid (R = tellE (seenL all key q)) := HR2.out rfl
    clear HR1 HR2
    go_wp2_with fail
    refine (l3Seen_any _ all key q _ hr2).mono ?_
    rintro e w3 ⟨rfl, hb3⟩
    have b3 := b2.trans (hb3.mono b2.size)
    clear hr2 b2 hb3
    generalize seenL all key q = o at HR
    cases o with
    | none =>
      have HN : Hid (R = none) := HR.out
      go_wp2
      go_ret2
      exact ⟨by rw [HN.out]; rfl, b3.alloc b3.size _⟩
    | some x =>
      cases hg : x.gone with
      | true =>
        have HN : Hid (R = none) := by unfold Hid; rw [HR.out]; simp [tellE, hg]
        simp only [Option.getD_some, Option.isSome_some, hg]
        clear hg
        go_wp2
        go_ret2
        exact ⟨by rw [HN.out]; rfl, b3.alloc b3.size _⟩
      | false =>
        have HN : Hid (R = some x.val) := by unfold Hid; rw [HR.out]; simp [tellE, hg]
        simp only [Option.getD_some, Option.isSome_some, hg]
        clear hg
        go_wp2
        go_ret2
        exact ⟨by rw [HN.out]; rfl, b3.alloc b3.size _⟩
theorem one_ent (w : World) (y : Ent) (t : TypeId) : ∀ j u, (EC y)[j]? = some u → (w.alloc (.cells #[.string y.key, .string y.val, .int .i64 y.seq, .bool y.gone] t)).cell? ((⟨w.heap.size, 0, none⟩ : Addr).add j) = some u := by
  intro j u h
  match j with
  | 0 => cases h; simp [Addr.add, World.cell?_alloc_at]
  | 1 => cases h; simp [Addr.add, World.cell?_alloc_at]
  | 2 => cases h; simp [Addr.add, World.cell?_alloc_at]
  | 3 => cases h; simp [Addr.add, World.cell?_alloc_at]
  | j + 4 => simp [EC] at h
theorem EC_one (y : Ent) : ∀ u ∈ EC y, u.oneCell' = true := by
  intro u hu
  simp only [EC, List.mem_cons, List.not_mem_nil, or_false] at hu
  rcases hu with rfl | rfl | rfl | rfl <;> rfl
theorem ownE_push1 {w : World} {B : Nat} {v : Value} {es : List Ent} {y : Ent} (h : w.ownsRow B 55 4 v (es.length + 1) (EV es ++ EC y)) : OwnE w B v (es ++ [y]) := by
  unfold OwnE
  rw [List.length_append, EV_append, EV_one]
  exact h
/-- What lies between two keys. -/
def inR (a b : ByteArray) (e : Ent) : Bool := !kLt e.key a && kLt e.key b
def scanL (all : List Ent) (a b : ByteArray) (q : Int) : List Ent := (shTo all q all.length).filter (inR a b)
def scanT (T : Tre) (a b : ByteArray) (q : Int) : List Ent := if treeOk T = true ∧ (mergedL (lsT T)).length ≤ 300 then scanL (mergedL (lsT T)) a b q else []
theorem scTo_succ {L : List Ent} {a b : ByteArray} {k : Nat} (hk : k < L.length) : (L.take (k + 1)).filter (inR a b) = (L.take k).filter (inR a b) ++ (if inR a b (nth L k) = true then [nth L k] else []) := by
  rw [List.take_succ_eq_append_getElem hk, List.filter_append, nth_eq hk]
  congr 1
  cases h : inR a b L[k] <;> simp [h]
theorem shTo_le (es : List Ent) (q : Int) : (shTo es q es.length).length ≤ es.length := shTo_len es q es.length
set_option maxHeartbeats 4000000 in
set_option maxRecDepth 100000 in
theorem l7Scan_any (v : Value) (all : List Ent) (fr to : ByteArray) (q : Int) (w : World) (hr : RdE w v all) (hok : okL all = true) :
    Calls Tryz.prog 36 #[v, .string fr, .string to, .int .i64 q] w fun e w' => RowPost w (scanL all fr to q) e w' := by
  have hl3 := okL_len hok
  have hle := shTo_le all q
  unfold scanL
  have HSH : Hid (∀ W, RdE W v all → Calls Tryz.prog 69 #[v, .int .i64 q] W fun e w' => ∃ u, e = .returned u ∧ OwnE w' W.heap.size u (shTo all q all.length) ∧ Below W.heap.size W w') := fun W h => l3Shown_any v all q W h hok
  generalize shTo all q all.length = L at HSH hle ⊢
  have b0 := below1 w (.cells #[] 55)
  have ho0 := ownE_none w
  have hs0 : (w.alloc (.cells #[] 55)).heap.size = w.heap.size + 1 := by simp
  go_enter Tryz.func36, Tryz.ntmps36
  go_wp2_with fail
  refine (HSH.out _ (hr.below b0)).mono ?_
  rintro e w1 ⟨u, rfl, ho1, hb1⟩
  have b1 := b0.trans (hb1.mono b0.size)
  have hoo := ho0.below hb1
  have hrL := ho1.rd
  obtain ⟨aL, cL, hvL, hlL, hmL, -⟩ := id hrL
  obtain ⟨nn, hnn⟩ : ∃ nn, nn = L.length := ⟨_, rfl⟩
  rw [← hnn] at hvL hlL hle
  have HNN : Hid (nn = L.length) := hnn
  subst hvL
  unfold maxLen at hmL
  have hoK : OwnE w1 (w.heap.size + 1) (.slice aL nn cL) L := by rw [← hs0]; exact ho1
  clear hnn HSH b0 ho0 hb1 ho1 hrL hr hs0
  have hap : ∀ k, (Value.slice aL nn cL).ownBlock = some k → (Value.slice (some ⟨w.heap.size, 0, none⟩) 0 0).ownBlock ≠ some k := fun k hk e => by
    have h1 := (World.ownsRow.lt hoK k hk).1
    have h2 : w.heap.size = k := Option.some.inj e
    omega
  have HAP : Hid (∀ k, (Value.slice aL nn cL).ownBlock = some k → (Value.slice (some ⟨w.heap.size, 0, none⟩) 0 0).ownBlock ≠ some k) := hap
  have hoL := hoK.mono (Nat.le_succ w.heap.size)
  clear hap hoK
  obtain ⟨i0, hi, hz0, hz1, hz2⟩ := info_parts Tryz.info55
  go_wp2
  go_loopw [9, 11] (fun o i wr => ∃ k : Nat, k ≤ nn ∧ i = .int .i64 k ∧ OwnE wr w.heap.size o ((L.take k).filter (inR fr to)) ∧ OwnE wr w.heap.size (.slice aL nn cL) L ∧ Hid (∀ k, (Value.slice aL nn cL).ownBlock = some k → o.ownBlock ≠ some k) ∧ Below w.heap.size w wr) (fun _ i _ => nn - (intOf i).toNat)
  case atStart => exact ⟨0, Nat.zero_le _, rfl, hoo, hoL, HAP, b1⟩
  case round =>
    clear hoo hoL HAP b1
    obtain ⟨k, hk, rfl, ho, hoL, HAP, hb⟩ := hrel
    by_cases hlt : k < nn
    · have hkl : k < L.length := by rw [← HNN.out]; exact hlt
      obtain ⟨b, off, rfl, hc⟩ := hoL.rd.at HNN.out k hkl
      have hkc : k < cL := by omega
      have HST := scTo_succ (a := fr) (b := to) hkl
      obtain ⟨y, hy⟩ : ∃ y, y = nth L k := ⟨_, rfl⟩
      rw [← hy] at hc HST
      have HS : Hid ((L.take (k + 1)).filter (inR fr to) = (L.take k).filter (inR fr to) ++ (if inR fr to y = true then [y] else [])) := HST
      have hfl : ((L.take k).filter (inR fr to)).length ≤ k := Nat.le_trans (List.length_filter_le _ _) (by rw [List.length_take]; omega)
      clear HST hy
      obtain ⟨c0, c1, c2, c3⟩ := id hc
      obtain ⟨g1, hg1⟩ : ∃ g1, g1 = kLt y.key fr := ⟨_, rfl⟩
      obtain ⟨g2, hg2⟩ : ∃ g2, g2 = kLt y.key to := ⟨_, rfl⟩
      have hB1 : Op.bytesLess y.key.toList fr.toList = g1 := hg1.symm
      have hB2 : Op.bytesLess y.key.toList to.toList = g2 := hg2.symm
      have hin : inR fr to y = (!g1 && g2) := by unfold inR; rw [hg1, hg2]
      rw [hin] at HS
      clear hg1 hg2 hin
      by_cases hgg : g1 = false ∧ g2 = true
      · obtain ⟨rfl, rfl⟩ := hgg
        have HS2 : Hid ((L.take (k + 1)).filter (inR fr to) = (L.take k).filter (inR fr to) ++ [y]) := HS.out
        have hs := hb.size
        clear HS
        go_wp2_with (at_builtin; (refine wpList_append_own_at _ rfl _ _ 30 rfl w.heap.size 55 i0 _ 4 48 Tryz.underlying30 hi hz0 hz1 hz2 rfl (by decide) _ _ _ rfl (World.ownsRow.alloc ho _) ⟨wr.heap.size, 0, none⟩ 1 1 (EC y) rfl rfl ?c1 ?c2 ?c3 ?c4 ?c5 ?_))
        case c1 => exact one_ent _ y _
        case c2 => exact EC_one y
        case c3 => unfold maxLen; omega
        case c4 => omega
        case c5 => simp; omega
        intro v5 w5 ho5 hg5 _ hat
        have bb1 := below1 wr (.cells #[.string y.key, .string y.val, .int .i64 y.seq, .bool y.gone] 55)
        have hoL5 := row_kept (hoL.below bb1) hg5 (fun k hk => HAP.out k hk)
        have HAP5 : Hid (∀ k, (Value.slice (some ⟨b, off, none⟩) nn cL).ownBlock = some k → v5.ownBlock ≠ some k) := fun k hk e => by
          have h1 := (World.ownsRow.lt hoL k hk).2
          rcases hat with hat | hat
          · rw [hat] at e; exact HAP.out k hk e
          · rw [hat] at e
            have h2 : wr.heap.size + 1 = k := Option.some.inj e
            omega
        have b5 : Below w.heap.size w w5 := (hb.alloc hb.size _).grown hg5 (by simp; omega) (fun k hk => (World.ownsRow.lt ho k hk).1)
        have r5 : OwnE w5 w.heap.size v5 ((L.take (k + 1)).filter (inR fr to)) := by rw [HS2.out]; exact ownE_push1 ho5
        clear ho hoL HAP hb ho5 hg5 hat bb1 hc c0 c1 c2 c3
        go_wp2
        go_roundw
        case rel => exact ⟨k + 1, by omega, by go_num, r5, hoL5, HAP5, b5⟩
        case measure => simp [intOf]; omega
      · skip
        have HS2 : Hid ((L.take (k + 1)).filter (inR fr to) = (L.take k).filter (inR fr to)) := by
          unfold Hid
          rw [HS.out]
          cases g1 <;> cases g2 <;> simp at hgg ⊢
        have r5 : OwnE wr w.heap.size u9 ((L.take (k + 1)).filter (inR fr to)) := by rw [HS2.out]; exact ho
        have hcase : (g1 = true) ∨ (g1 = false ∧ g2 = false) := by cases g1 <;> cases g2 <;> simp at hgg ⊢
        clear ho HS HS2 hgg hfl
        rcases hcase with rfl | ⟨rfl, rfl⟩
        all_goals
          go_wp2
          go_roundw
          case rel => exact ⟨k + 1, by omega, by go_num, r5, hoL, HAP, hb⟩
          case measure => simp [intOf]; omega
    · skip
      have hke : k = nn := by omega
      subst hke
      have r5 : OwnE wr w.heap.size u9 (L.filter (inR fr to)) := by have := ho; rw [HNN.out, List.take_length] at this; exact this
      clear ho
      go_wp2
      go_ret
      exact ⟨_, rfl, r5, hb⟩
theorem scanT_no {T : Tre} {a b : ByteArray} {q : Int} (h : treeOk T = false ∨ 300 < (allT T).1.length) : scanT T a b q = [] := by
  unfold scanT
  rw [if_neg]
  rintro ⟨h1, h2⟩
  rcases h with h | h
  · rw [h] at h1; cases h1
  · rw [tree_all ((treeOk_iff T).1 h1)] at h
    have h3 : 300 < (mergedL (lsT T)).length := h
    omega
theorem scanT_yes {T : Tre} {a b : ByteArray} {q : Int} (h : treeOk T = true) (hn : (allT T).1.length ≤ 300) : scanT T a b q = scanL (allT T).1 a b q ∧ okL (allT T).1 = true := by
  have hp := (treeOk_iff T).1 h
  have ha := tree_all hp
  rw [ha] at hn ⊢
  exact ⟨by unfold scanT; rw [if_pos ⟨h, hn⟩], all_okL hp hn⟩
set_option maxHeartbeats 4000000 in
set_option maxRecDepth 100000 in
theorem specScan_any (X : TrX) (fr to : ByteArray) (q : Int) (w : World) (hx : RdTr w X) (hf : FitTr X) :
    Calls Tryz.prog 12 #[.agg #[X.vm, X.vy, X.vo, .int .i64 X.seq, X.vs], .string fr, .string to, .int .i64 q] w fun e w' => RowPost w (scanT X.tre fr to q) e w' := by
  have HALL : Hid (∀ W, RdTr W X → Calls Tryz.prog 26 #[.agg #[X.vm, X.vy, X.vo, .int .i64 X.seq, X.vs]] W fun e w' => AllPost W X e w') := fun W h => l7All_any X W h hf
  have HOK : Hid (∀ W, RdTr W X → Calls Tryz.prog 27 #[.agg #[X.vm, X.vy, X.vo, .int .i64 X.seq, X.vs]] W fun e w' => e = .returned (.bool (treeOk X.tre)) ∧ Below W.heap.size W w') := fun W h => specTreeOk_any X W h hf
  have HR1 : Hid (treeOk X.tre = false ∨ 300 < (allT X.tre).1.length → scanT X.tre fr to q = []) := scanT_no
  have HR2 : Hid (treeOk X.tre = true → (allT X.tre).1.length ≤ 300 → scanT X.tre fr to q = scanL (allT X.tre).1 fr to q ∧ okL (allT X.tre).1 = true) := scanT_yes
  unfold AllPost at HALL
  generalize scanT X.tre fr to q = R at HR1 HR2 ⊢
  generalize treeOk X.tre = ok at HOK HR1 HR2
  generalize allT X.tre = AT at HALL HR1 HR2
  obtain ⟨all, is⟩ := AT
  simp only at HALL HR1 HR2
  have ht0 := treAt_new w X 33
  have b0 := below1 w (.cells #[X.vm, X.vy, X.vo, .int .i64 X.seq, X.vs] 33)
  obtain ⟨q0, q1, q2, q3, q4⟩ := id ht0
  go_enter Tryz.func12, Tryz.ntmps12
  go_wp2_with fail
  refine (HALL.out _ (hx.below b0)).mono ?_
  rintro e w1 ⟨u, rfl, ho1, hb1⟩
  have ht1 := ht0.below hb1
  have b1 := b0.trans (hb1.mono b0.size)
  clear HALL ht0 b0 hb1 q0 q1 q2 q3 q4
  obtain ⟨q0, q1, q2, q3, q4⟩ := id ht1
  go_wp2_with fail
  refine (HOK.out _ (hx.below b1)).mono ?_
  rintro e w2 ⟨rfl, hb2⟩
  have hr2 := (ho1.below hb2).rd
  have b2 := b1.trans (hb2.mono b1.size)
  obtain ⟨aa, ca, hva, -⟩ := id hr2
  obtain ⟨an, han⟩ : ∃ an, an = all.length := ⟨_, rfl⟩
  rw [← han] at hva
  have HAN : Hid (an = all.length) := han
  subst hva
  clear HOK ht1 ho1 b1 hb2 q0 q1 q2 q3 q4 han
  cases ok with
  | false =>
    have HR : Hid (R = []) := HR1.out (.inl rfl)
    go_wp2
    go_ret
    exact ⟨_, rfl, by rw [HR.out]; exact (ownE_none w2).mono b2.size, b2.alloc b2.size _⟩
  | true =>
    by_cases h3 : 300 < an
    · skip
      have HR : Hid (R = []) := HR1.out (.inr (by rw [← HAN.out]; exact h3))
      have h3i : (300 : Int) < (an : Int) := by omega
      go_wp2
      go_ret
      exact ⟨_, rfl, by rw [HR.out]; exact (ownE_none w2).mono b2.size, b2.alloc b2.size _⟩
    · skip
      have h3i : ¬ (300 : Int) < (an : Int) := by omega
      have HR := HR2.out rfl (by rw [← HAN.out]; omega)
      have HC := l7Scan_any _ all fr to q _ hr2 HR.2
      have HC1 : Hid (Calls _ _ _ _ _) := HC
      have HRR : Hid (R = scanL all fr to q) := HR.1
      clear HC HR HR1 HR2
      go_wp2_with fail
      refine HC1.out.mono ?_
      rintro e w3 ⟨v3, rfl, ho3, hb3⟩
      go_wp2
      go_ret
      exact ⟨_, rfl, by rw [HRR.out]; exact ho3.mono b2.size, b2.trans (hb3.mono b2.size)⟩
end Go.Proofs.YtjnhhdnfncfedaaGreat
