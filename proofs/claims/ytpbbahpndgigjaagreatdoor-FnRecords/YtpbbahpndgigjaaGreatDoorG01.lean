/- The contract of the model's l2Number: some number; of a number's own digits that number. Plain facts that serve every text: steps of a region that draws its order, rows of the call's own, what a call leaves as it was. The contract of the model's l2Words: the words of a line, in memory of its own. What a record is, and of which text a disk begins with one: plain facts. -/
import Derived.Test.YtpbbahpndgigjaaGreatDoorG00
import Derived.BigQuiet
import Derived.Laws.Cover1
import Derived.Deep.RegionWith
import Derived.Deep.RegionLaw
import Derived.Deep.RegionHeld3
namespace Go.Proofs.YtpbbahpndgigjaaGreatDoor
set_option maxHeartbeats 16000000
set_option maxRecDepth 100000
open Go.RowKit
theorem toListB (b : ByteArray) : b.toList = b.data.toList := ByteArray.toList_eq b
theorem toList_ne {s : ByteArray} (h : 0 < s.size) : s.toList.isEmpty = false := by
  rw [toListB, List.isEmpty_eq_false_iff]; intro e
  have := size_length s
  rw [e] at this
  simp at this
  omega
theorem toList_nil {s : ByteArray} (h : s.size = 0) : s.toList.isEmpty = true := by
  rw [toListB, List.isEmpty_iff]
  exact List.length_eq_zero_iff.1 (by rw [size_length]; exact h)
theorem dec_lenk : ∀ (k u : Nat), 1 ≤ k → u < 10 ^ k → (Lib.decDigits u).length ≤ k
  | 0, u, h, _ => by omega
  | k + 1, u, _, h => by
    rw [dec_left, List.length_append, List.length_singleton]
    unfold left
    split
    · simp
    · rename_i h0
      by_cases hk : k = 0
      · subst hk; omega
      · have := dec_lenk k (u / 10) (by omega) (by rw [Nat.pow_succ] at h; omega)
        omega
def NumP (w : World) (e : Ending) (w' : World) : Prop := (∃ (n : Int) (b : Bool), e = .returned (.tuple #[.int .i64 n, .bool b])) ∧ w' = w
theorem numP {w : World} (n : Int) (b : Bool) : NumP w (.returned (.tuple #[.int .i64 n, .bool b])) w := ⟨⟨n, b, rfl⟩, rfl⟩
theorem numberS_any (s : ByteArray) (w : World) (hs : s.size ≤ 1048576) :
    Calls Tryz.prog 56 #[.string s] w fun e w' => NumP w e w' := by
  by_cases h0 : s.size = 0
  · have hne := toList_nil h0
    have c1 : ((s.size : Int) - 0 < 1) := by omega
    go_enter Tryz.func56, Tryz.ntmps56
    go_wp2
    go_ret2
    exact numP _ _
  have hp : 0 < s.size := by omega
  have hne := toList_ne hp
  clear h0
  by_cases h45 : s[0] = 45
  · have hq : ((s[0].toNat : Int) == 45) = true := by rw [h45]; rfl
    clear h45
    by_cases hl : 2 ≤ s.size ∧ s.size ≤ 11
    · have c1 : ¬ ((s.size : Int) - 1 < 1) := by omega
      have c2 : ¬ (10 < (s.size : Int) - 1) := by omega
      go_enter Tryz.func56, Tryz.ntmps56
      go_wp2
      clear c1 c2 hq
      go_loop [6, 7] (fun nn kk => ∃ (k : Nat) (m : Int), 1 ≤ k ∧ k ≤ s.size ∧ kk = .int .i64 k ∧ nn = .int .i64 m) (fun _ kk => s.size - (intOf kk).toNat)
      case atStart => exact ⟨1, 0, Nat.le_refl _, by omega, rfl, rfl⟩
      case round =>
        obtain ⟨k, m, hk1, hk2, rfl, rfl⟩ := hrel
        by_cases hlt : k < s.size
        · by_cases d1 : (s[k].toNat : Int) < 48
          · go_wp2
            go_ret2
            exact numP _ _
          · by_cases d2 : 57 < (s[k].toNat : Int)
            · go_wp2
              go_ret2
              exact numP _ _
            · go_wp2
              go_round
              case rel => exact ⟨k + 1, _, by omega, by omega, by go_num, rfl⟩
              case measure => simp [intOf]; omega
        · have hle : 1 < s.size := by omega
          by_cases hz : s[1] = 48
          · have hz2 : ((s[1].toNat : Int) == 48) = true := by rw [hz]; rfl
            clear hz
            go_wp2
            all_goals go_ret2
            all_goals exact numP _ _
          · have hz2 : ((s[1].toNat : Int) == 48) = false := by
              simp only [beq_eq_false_iff_ne]
              intro e
              exact hz (UInt8.toNat_inj.1 (by show s[1].toNat = 48; omega))
            clear hz
            go_wp2
            all_goals go_ret2
            all_goals exact numP _ _
    · go_enter Tryz.func56, Tryz.ntmps56
      by_cases hl2 : (s.size : Int) - 1 < 1
      · go_wp2
        go_ret2
        exact numP _ _
      · have c2 : 10 < (s.size : Int) - 1 := by omega
        go_wp2
        go_ret2
        exact numP _ _
  · have hq : ((s[0].toNat : Int) == 45) = false := by
      simp only [beq_eq_false_iff_ne]
      intro e
      exact h45 (UInt8.toNat_inj.1 (by show s[0].toNat = 45; omega))
    clear h45
    by_cases hl : 1 ≤ s.size ∧ s.size ≤ 10
    · have c1 : ¬ ((s.size : Int) - 0 < 1) := by omega
      have c2 : ¬ (10 < (s.size : Int) - 0) := by omega
      go_enter Tryz.func56, Tryz.ntmps56
      go_wp2
      clear c1 c2 hq
      go_loop [6, 7] (fun nn kk => ∃ (k : Nat) (m : Int), 0 ≤ k ∧ k ≤ s.size ∧ kk = .int .i64 k ∧ nn = .int .i64 m) (fun _ kk => s.size - (intOf kk).toNat)
      case atStart => exact ⟨0, 0, Nat.le_refl _, by omega, rfl, rfl⟩
      case round =>
        obtain ⟨k, m, hk1, hk2, rfl, rfl⟩ := hrel
        by_cases hlt : k < s.size
        · by_cases d1 : (s[k].toNat : Int) < 48
          · go_wp2
            go_ret2
            exact numP _ _
          · by_cases d2 : 57 < (s[k].toNat : Int)
            · go_wp2
              go_ret2
              exact numP _ _
            · go_wp2
              go_round
              case rel => exact ⟨k + 1, _, by omega, by omega, by go_num, rfl⟩
              case measure => simp [intOf]; omega
        · have hle : 0 < s.size := by omega
          by_cases hz : s[0] = 48
          · have hz2 : ((s[0].toNat : Int) == 48) = true := by rw [hz]; rfl
            clear hz
            go_wp2
            all_goals go_ret2
            all_goals exact numP _ _
          · have hz2 : ((s[0].toNat : Int) == 48) = false := by
              simp only [beq_eq_false_iff_ne]
              intro e
              exact hz (UInt8.toNat_inj.1 (by show s[0].toNat = 48; omega))
            clear hz
            go_wp2
            all_goals go_ret2
            all_goals exact numP _ _
    · go_enter Tryz.func56, Tryz.ntmps56
      by_cases hl2 : (s.size : Int) - 0 < 1
      · omega
      · have c2 : 10 < (s.size : Int) - 0 := by omega
        go_wp2
        go_ret2
        exact numP _ _
theorem valD_step {s : ByteArray} {k : Nat} (h : k < s.size) : valD 0 (s.data.toList.take (k + 1)) = valD 0 (s.data.toList.take k) * 10 + (s[k].toNat - 48) := by
  have hl := size_length s
  rw [List.take_succ_eq_append_getElem (by omega), valD_append]
  rfl
theorem valD_le (l : List UInt8) (k : Nat) : valD 0 (l.take k) ≤ valD 0 l := by
  have e := List.take_append_drop k l
  have h : valD 0 l = valD (valD 0 (l.take k)) (l.drop k) := by rw [← valD_append, e]
  rw [h]
  exact valD_ge _ _
theorem dec_facts (g : Int) (h0 : 1 ≤ g) (h1 : g ≤ 1000000) : ∃ hp : 0 < (itoaS g).size, (itoaS g).size ≤ 7 ∧ 49 ≤ (itoaS g)[0].toNat ∧ (∀ k (h : k < (itoaS g).size), 48 ≤ (itoaS g)[k].toNat ∧ (itoaS g)[k].toNat ≤ 57) ∧ valD 0 (itoaS g).data.toList = g.toNat := by
  have e : (itoaS g).data.toList = Lib.decDigits g.toNat := itoa_pos g h0
  have hl := size_length (itoaS g)
  obtain ⟨c, r, e2, h3, h4⟩ := dec_head g.toNat g.toNat (Nat.le_refl _) (by omega)
  have hp : 0 < (itoaS g).size := by rw [← hl, e, e2]; simp
  refine ⟨hp, ?_, ?_, fun k h => ?_, ?_⟩
  · rw [← hl, e]; exact dec_lenk 7 _ (by omega) (by omega)
  · show 49 ≤ ((itoaS g).data.toList[0]'(by omega)).toNat
    have : (itoaS g).data.toList[0]'(by omega) = c := by
      have e3 := e.trans e2
      simp [e3]
    rw [this]; exact h3
  · exact dec_digs g.toNat g.toNat (Nat.le_refl _) _ (by rw [← e]; exact List.getElem_mem (by omega : k < (itoaS g).data.toList.length))
  · rw [e]; exact dec_val _ _ (Nat.le_refl _)
theorem number_dec (g : Int) (w : World) (h0 : 1 ≤ g) (h1 : g ≤ 1000000) :
    Calls Tryz.prog 56 #[.string (itoaS g)] w fun e w' => e = .returned (.tuple #[.int .i64 g, .bool true]) ∧ w' = w := by
  have H := dec_facts g h0 h1
  generalize itoaS g = s at H ⊢
  obtain ⟨hp, hl, hf, hd, hv⟩ := H
  have hsz := size_length s
  have HV : Hid (valD 0 s.data.toList = g.toNat) := hv
  have HD : Hid (∀ k (h : k < s.size), 48 ≤ s[k].toNat ∧ s[k].toNat ≤ 57) := hd
  have hne := toList_ne hp
  have hq : ((s[0].toNat : Int) == 45) = false := by simp only [beq_eq_false_iff_ne]; omega
  have hz2 : ((s[0].toNat : Int) == 48) = false := by simp only [beq_eq_false_iff_ne]; omega
  clear hv hd hf
  have c1 : ¬ ((s.size : Int) - 0 < 1) := by omega
  have c2 : ¬ (10 < (s.size : Int) - 0) := by omega
  go_enter Tryz.func56, Tryz.ntmps56
  go_wp2
  clear c1 c2 hq
  go_loop [6, 7] (fun nn kk => ∃ (k m : Nat), k ≤ s.size ∧ kk = .int .i64 k ∧ nn = .int .i64 m ∧ Hid (m = valD 0 (s.data.toList.take k))) (fun _ kk => s.size - (intOf kk).toNat)
  case atStart => exact ⟨0, 0, Nat.zero_le _, rfl, rfl, rfl⟩
  case round =>
    obtain ⟨k, m, hk2, rfl, rfl, HM⟩ := hrel
    by_cases hlt : k < s.size
    · obtain ⟨d1, d2⟩ := HD.out k hlt
      have hm : m ≤ 1000000 := by
        have := valD_le s.data.toList k
        rw [HV.out] at this
        rw [HM.out]
        omega
      have HN : Hid (m * 10 + (s[k].toNat - 48) = valD 0 (s.data.toList.take (k + 1))) := by unfold Hid; rw [valD_step hlt, ← HM.out]
      go_wp2
      go_round
      case rel => exact ⟨k + 1, _, by omega, by go_num, by go_num, HN⟩
      case measure => simp [intOf]; omega
    · have HG : Hid ((m : Int) = g) := by
        unfold Hid
        rw [HM.out, List.take_of_length_le (by omega), HV.out]
        omega
      go_wp2
      go_ret2
      exact ⟨by rw [← HG.out]; rfl, rfl⟩
open Go.RowKit
theorem below1 (w : World) (x : Obj) : Below w.heap.size w (w.alloc x) := (Below.refl _ _).alloc (Nat.le_refl _) _
theorem below2 (w : World) (x y : Obj) : Below w.heap.size w ((w.alloc x).alloc y) := (below1 w x).alloc (by simp) _
theorem bcell {W w1 : World} (hb : Below W.heap.size W w1) : (∀ b o, b < W.heap.size → w1.cell? ⟨b, o, none⟩ = W.cell? ⟨b, o, none⟩) ∧ (∀ b o, b < W.heap.size → w1.frozen? ⟨b, o, none⟩ = W.frozen? ⟨b, o, none⟩) :=
  ⟨fun b o h => hb.cell (p := ⟨b, o, none⟩) h, fun b o h => hb.frozen (p := ⟨b, o, none⟩) h⟩
theorem takeH {P : Program} {ops : Array Oper} {Q : Exit → Act → World → Prop} {md : Region.Mode} {S : World → Prop} {i d : Nat} {oi : Oper} {v : Value} {fuel : Nat} {listed : Array Bool} {a : Act} {w : World} (hi : ops[i]? = some oi) (hd : oi.dst = some d)
    (hs : Region.noSelect ops = true) (hf : Region.free md ops listed i = true) (hr : (Region.ready md ops listed).contains i = true)
    (hQ : ∀ c a w, Q (.panic c) (a.put (some d) v) w → Q (.panic c) a w) (hy : YieldsIf P ops S oi v a) (hS : S w)
    (h : wpAnyH P md ops Q S fuel (listed.setIfInBounds i true) (a.put (some d) v) w) : wpAnyH P md ops Q S (fuel + 1) listed a w :=
  wpAnyH_take hi hs hf hr (by rw [hd]; exact hQ) hy hS (by rw [hd]; exact h)
theorem tkG (i d : Nat) {P : Program} {ops : Array Oper} {Q : Exit → Act → World → Prop} {md : Region.Mode} {S : World → Prop} {oi : Oper} {v : Value} {fuel : Nat} {listed : Array Bool} {a : Act} {w : World} (hS : S w)
    (h : wpAnyH P md ops (NoPanic Q) S fuel (listed.setIfInBounds i true) (a.put (some d) v) w) (hi : ops[i]? = some oi := by rfl) (hd : oi.dst = some d := by rfl)
    (hs : Region.noSelect ops = true := by kernel_rfl) (hf : Region.free md ops listed i = true := by kernel_rfl) (hr : (Region.ready md ops listed).contains i = true := by kernel_rfl) (hw : Region.wanted oi (yielded ops a.tmps) = true := by kernel_rfl)
    (hy : ∀ w, S w → (execOp a.eval oi).run P w = .ok (.value v) w := by intro w hS; (try dsimp only [Nat.zero_add] at hS); go_simp; (try with_reducible rfl)) : wpAnyH P md ops (NoPanic Q) S (fuel + 1) listed a w :=
  takeH hi hd hs hf hr (fun _ _ _ h => h) (Or.inl ⟨hw, hy⟩) hS h
theorem tkS (i d : Nat) {P : Program} {ops : Array Oper} {Q : Exit → Act → World → Prop} {md : Region.Mode} {S : World → Prop} {oi : Oper} {fuel : Nat} {listed : Array Bool} {a : Act} {w : World} (hS : S w)
    (h : wpAnyH P md ops (NoPanic Q) S fuel (listed.setIfInBounds i true) (a.put (some d) undef) w) (hi : ops[i]? = some oi := by rfl) (hd : oi.dst = some d := by rfl)
    (hs : Region.noSelect ops = true := by kernel_rfl) (hf : Region.free md ops listed i = true := by kernel_rfl) (hr : (Region.ready md ops listed).contains i = true := by kernel_rfl) (hw : Region.wanted oi (yielded ops a.tmps) = false := by kernel_rfl) : wpAnyH P md ops (NoPanic Q) S (fuel + 1) listed a w :=
  takeH hi hd hs hf hr (fun _ _ _ h => h) (Or.inr ⟨hw, rfl⟩) hS h
theorem row_set {w : World} {B t s n c j : Nat} {v u : Value} {xs : List Value} (ho : w.ownsRow B t s v n xs) (hc : ∀ k, v.ownBlock = some k → c ≠ k) : (w.setCell ⟨c, j, none⟩ u).ownsRow B t s v n xs :=
  row_kept ho (⟨rfl, rfl, rfl, by simp, fun k _ hk => heap_setCell_other w ⟨c, j, none⟩ k u (fun e => hk (by simp [e]))⟩ : w.grownBy (w.setCell ⟨c, j, none⟩ u) (some c)) (fun k hk e => hc k hk (Option.some.inj e))
theorem rows_apart {w : World} {B1 B2 t1 t2 s1 s2 n1 n2 : Nat} {v1 v2 : Value} {xs ys : List Value} (h1 : w.ownsRow B1 t1 s1 v1 n1 xs) (h2 : w.ownsRow B2 t2 s2 v2 n2 ys) (ht : t1 ≠ t2) : ∀ k, v1.ownBlock = some k → v2.ownBlock = some k → False := by
  intro k hk1 hk2
  rcases h1.2 with ⟨rfl, _⟩ | ⟨g, cap, cur, rfl, _, hg, _⟩
  · simp [Value.ownBlock] at hk1
  · rcases h2.2 with ⟨rfl, _⟩ | ⟨g2, cap2, cur2, rfl, _, hg2, _⟩
    · simp [Value.ownBlock] at hk2
    · obtain rfl : g = k := by simpa [Value.ownBlock] using hk1
      obtain rfl : g2 = g := by simpa [Value.ownBlock] using hk2
      rw [hg] at hg2
      injection hg2 with hg2
      injection hg2 with _ h3
      exact ht h3
def NilOk (v : Value) : Prop := ∀ n c, v = .slice none n c → c = 0
theorem run_append_txts (ty : TypeId) {w : World} {base : Nat} {v u : Value} {ys zs : List ByteArray} (hown : OwnS w base v ys) (hr : RdS w u zs) (hn : NilOk u) (hl : ys.length + zs.length ≤ 1000000000) (hbase : base ≤ w.heap.size) :
    ∃ v' w', (Builtin.append_ #[25, 25] ty #[v, u]).run Tryz.prog w = .ok v' w' ∧ OwnS w' base v' (ys ++ zs) ∧ w.grownBy w' v.ownBlock := by
  obtain ⟨i0, hi, hz0, hz1, hz2⟩ := info_parts Tryz.info9
  obtain ⟨a, cap, rfl, h1, h2, h3⟩ := hr
  have more : ∀ {w1 : World} {v' : Value}, w1.ownsRow base 9 1 v' (ys.length + zs.length) (SV ys ++ SV zs) → OwnS w1 base v' (ys ++ zs) := fun h => by unfold OwnS; rw [SV_append, List.length_append]; exact h
  have row : ∀ ad, (∀ j u, (SV zs)[j]? = some u → w.cell? (ad.add j) = some u) → ∃ v' w', (Builtin.append_ #[25, 25] ty #[v, .slice (some ad) zs.length cap]).run Tryz.prog w = .ok v' w' ∧ OwnS w' base v' (ys ++ zs) ∧ w.grownBy w' v.ownBlock := by
    intro ad hc
    obtain ⟨v', w', hrun, r1, r2, _⟩ := run_append_own (P := Tryz.prog) w base 25 ty 9 i0 _ 1 16 Tryz.underlying25 hi hz0 hz1 hz2 rfl (by decide) v ys.length (SV ys) hown ad zs.length cap (SV zs) (by rw [SV_length]; omega) hc (fun u hu => by obtain ⟨_, _, rfl⟩ := List.mem_map.1 hu; rfl) (by unfold maxLen; omega) (by omega) hbase
    exact ⟨v', w', hrun, more r1, r2⟩
  cases a with
  | some ad =>
    refine row ad ?_
    rcases h3 with rfl | ⟨b, off, ha, hc⟩
    · intro j u hj; simp [SV] at hj
    · cases ha
      intro j u hj
      have hjl : j < zs.length := by have := (List.getElem?_eq_some_iff.1 hj).1; rwa [SV_length] at this
      rw [SV_get zs j hjl] at hj
      cases hj
      rw [Addr.add_lit]
      exact hc j hjl
  | none =>
    have hc0 := hn _ _ rfl
    subst hc0
    rcases h3 with rfl | ⟨b, off, ha, hc⟩
    · refine ⟨v, w, run_append_owned_none (P := Tryz.prog) w base 25 ty 9 i0 1 Tryz.underlying25 hi v ys.length (SV ys) hown, by simpa using hown, ⟨rfl, rfl, rfl, Nat.le_refl _, fun _ _ _ => rfl⟩⟩
    · cases ha
theorem wpList_append_txts {w : World} {ops : Array Oper} {rest : List Oper} {o : Oper} {a : Act} {Q : Exit → Act → World → Prop} (hgd : o.guard = none) (s x : Operand)
    (ho : o.op = .call { callee := .builtin .append, args := #[s, x], argTypes := #[25, 25] }) (base : Nat) (v u : Value) (ys zs : List ByteArray) (hs : a.eval s = v) (hx : a.eval x = u) (hown : OwnS w base v ys) (hr : RdS w u zs) (hn : NilOk u) (hl : ys.length + zs.length ≤ 1000000000) (hbase : base ≤ w.heap.size)
    (h : ∀ v' w', OwnS w' base v' (ys ++ zs) → w.grownBy w' v.ownBlock → wpList Tryz.prog ops Q rest (a.put o.dst v') w') : wpList Tryz.prog ops Q (o :: rest) a w := by
  refine wpList_plain hgd fun K hK => ?_
  obtain ⟨v', w', hrun, r1, r2⟩ := run_append_txts o.type hown hr hn hl hbase
  unfold Oper.wp
  simp [execOp, ho, resolve, invoke, builtin, hs, hx, hrun, Result.andThen]
  exact hK _ _ (h v' w' r1 r2)
theorem step_append_txts {w : World} {ops : Array Oper} {o : Oper} {a : Act} {K : Act → World → Prop} {Q : Exit → Act → World → Prop} {E : Prop} (hgd : o.guard = none) (d : Nat) (hd : o.dst = some d) (s x : Operand)
    (ho : o.op = .call { callee := .builtin .append, args := #[s, x], argTypes := #[25, 25] }) (base : Nat) (v u : Value) (ys zs : List ByteArray) (hs : a.eval s = v) (hx : a.eval x = u) (hown : OwnS w base v ys) (hr : RdS w u zs) (hn : NilOk u) (hl : ys.length + zs.length ≤ 1000000000) (hbase : base ≤ w.heap.size)
    (h : ∀ v' w', OwnS w' base v' (ys ++ zs) → w.grownBy w' v.ownBlock → K (a.put (some d) v') w') :
    if Region.wanted o (yielded ops a.tmps) = true then Oper.wp Tryz.prog o a w K Q else E := by
  have hw : Region.wanted o (yielded ops a.tmps) = true := by simp [Region.wanted, hgd]
  rw [if_pos hw]
  obtain ⟨v', w', hrun, r1, r2⟩ := run_append_txts o.type hown hr hn hl hbase
  unfold Oper.wp
  simp [execOp, ho, resolve, invoke, builtin, hs, hx, hrun, Result.andThen]
  have h' := h v' w' r1 r2
  rw [← hd] at h'
  exact h'
theorem step_row0 {w : World} {ops : Array Oper} {o : Oper} {a : Act} {K : Act → World → Prop} {Q : Exit → Act → World → Prop} {E : Prop} (hgd : o.guard = none) (d : Nat) (hd : o.dst = some d) (e : TypeId) (s : Nat)
    (hrun : (execOp a.eval o).run Tryz.prog w = .ok (.value (.slice (some ⟨w.heap.size, 0, none⟩) 0 0)) (w.alloc (.cells #[] e)))
    (h : ∀ b W', Below w.heap.size w W' → W'.ownsRow w.heap.size e s (.slice (some ⟨b, 0, none⟩) 0 0) 0 [] → w.heap.size ≤ b → b < W'.heap.size → K (a.put (some d) (.slice (some ⟨b, 0, none⟩) 0 0)) W') :
    if Region.wanted o (yielded ops a.tmps) = true then Oper.wp Tryz.prog o a w K Q else E := by
  have hw : Region.wanted o (yielded ops a.tmps) = true := by simp [Region.wanted, hgd]
  rw [if_pos hw]
  have h' := h w.heap.size _ (below1 w (.cells #[] e)) (World.ownsRow_lit w #[] 0 (Nat.le_refl _) (Nat.zero_le _) (by simp)) (Nat.le_refl _) (by simp)
  rw [← hd] at h'
  unfold Oper.wp
  rw [hrun]
  exact h'
theorem row_base {w : World} {B t s n c j : Nat} {v u : Value} {xs : List Value} (ho : w.ownsRow B t s v n xs) (hc : c < B) : (w.setCell ⟨c, j, none⟩ u).ownsRow B t s v n xs := row_set ho (fun k hk e => by have := (World.ownsRow.lt ho k hk).1; omega)
def oneB (v : Value) : List Nat := v.ownBlock.toList
theorem mem_oneB {v : Value} {k : Nat} : k ∈ oneB v ↔ v.ownBlock = some k := by
  unfold oneB
  rw [Option.mem_toList]
structure Touch (bs : List Nat) (w w' : World) : Prop where
  os : w'.os = w.os
  tape : w'.tape = w.tape
  output : w'.output = w.output
  size : w.heap.size ≤ w'.heap.size
  block : ∀ k, k < w.heap.size → k ∉ bs → w'.heap[k]? = w.heap[k]?
theorem Touch.refl (bs : List Nat) (w : World) : Touch bs w w := ⟨rfl, rfl, rfl, Nat.le_refl _, fun _ _ _ => rfl⟩
theorem Touch.of_below {bs : List Nat} {w w' : World} (h : Below w.heap.size w w') : Touch bs w w' := ⟨h.os, h.tape, h.output, h.size, fun k hk _ => h.block k hk⟩
theorem Touch.set {bs : List Nat} {w : World} {g j : Nat} {u : Value} (hg : g ∈ bs) : Touch bs w (w.setCell ⟨g, j, none⟩ u) := ⟨rfl, rfl, rfl, by simp, fun k _ hn => heap_setCell_other w ⟨g, j, none⟩ k u (fun e => hn (by rw [e]; exact hg))⟩
theorem Touch.trans {bs : List Nat} {a b c : World} (h : Touch bs a b) (k : Touch bs b c) : Touch bs a c := ⟨k.os.trans h.os, k.tape.trans h.tape, k.output.trans h.output, Nat.le_trans h.size k.size, fun i hi hn => (k.block i (Nat.lt_of_lt_of_le hi h.size) hn).trans (h.block i hi hn)⟩
theorem Touch.more {bs cs : List Nat} {w w' : World} (h : Touch bs w w') (hs : ∀ k ∈ bs, k ∈ cs) : Touch cs w w' := ⟨h.os, h.tape, h.output, h.size, fun k hk hn => h.block k hk (fun e => hn (hs k e))⟩
theorem Touch.row {bs : List Nat} {w w' : World} {B t s n : Nat} {v : Value} {xs : List Value} (h : Touch bs w w') (ho : w.ownsRow B t s v n xs) (hn : ∀ k, v.ownBlock = some k → k ∉ bs) : w'.ownsRow B t s v n xs := by
  refine ⟨ho.1, ?_⟩
  rcases ho.2 with h2 | ⟨g, cap, cur, hv, hg, hh, r⟩
  · exact .inl h2
  · have hgo : v.ownBlock = some g := by rw [hv]; rfl
    exact .inr ⟨g, cap, cur, hv, hg, (h.block g (World.ownsRow.lt ho g hgo).2 (hn g hgo)).trans hh, r⟩
theorem Touch.below {bs : List Nat} {a w w' : World} (h : Touch bs w w') (hb : Below a.heap.size a w) (hn : ∀ k ∈ bs, a.heap.size ≤ k) : Below a.heap.size a w' :=
  ⟨h.os.trans hb.os, h.tape.trans hb.tape, h.output.trans hb.output, Nat.le_trans hb.size h.size, fun k hk => (h.block k (Nat.lt_of_lt_of_le hk hb.size) (fun e => by have := hn k e; omega)).trans (hb.block k hk)⟩
theorem own_nil {w : World} {B t z n : Nat} {v : Value} {xs : List Value} (h : w.ownsRow B t z v n xs) : NilOk v := by
  intro m c e
  rcases h.2 with ⟨hv, _⟩ | ⟨g, cap, cur, hv, _⟩
  · rw [hv] at e; cases e; rfl
  · rw [hv] at e; cases e
open Go.RowKit
def bytesOf (s : ByteArray) : List UInt8 := s.data.toList
theorem noBl {sl : List UInt8} {f k : Nat} (hk : k ≤ sl.length) (hfk : f ≤ k) (hn : ∀ j, f ≤ j → j < k → sl[j]? ≠ some 32) : (32 : UInt8) ∉ (sl.drop f).take (k - f) := by
  intro hm
  obtain ⟨j, hj, e⟩ := List.mem_iff_getElem.1 hm
  rw [List.length_take, List.length_drop] at hj
  rw [List.getElem_take, List.getElem_drop] at e
  exact hn (f + j) (by omega) (by omega) (by rw [List.getElem?_eq_getElem (by omega), e])
theorem words_step {sl : List UInt8} {f k : Nat} (hk : k < sl.length) (hfk : f ≤ k) (hc : sl[k] = 32) (hn : ∀ j, f ≤ j → j < k → sl[j]? ≠ some 32) : wordsL (sl.drop f) = (sl.drop f).take (k - f) :: wordsL (sl.drop (k + 1)) := by
  have e : sl.drop f = (sl.drop f).take (k - f) ++ 32 :: sl.drop (k + 1) := by
    have h1 : (sl.drop f).drop (k - f) = sl.drop k := by rw [List.drop_drop]; congr 1; omega
    have h2 : sl.drop k = 32 :: sl.drop (k + 1) := by rw [List.drop_eq_getElem_cons hk, hc]
    rw [← h2, ← h1, List.take_append_drop]
  have h := words_app ((sl.drop f).take (k - f)) (sl.drop (k + 1)) (noBl (by omega) hfk hn)
  rw [← e] at h
  exact h
theorem words_end {sl : List UInt8} {f : Nat} (hf : f ≤ sl.length) (hn : ∀ j, f ≤ j → j < sl.length → sl[j]? ≠ some 32) : wordsL (sl.drop f) = [(sl.drop f).take (sl.length - f)] := by
  have e : (sl.drop f).take (sl.length - f) = sl.drop f := List.take_of_length_le (by rw [List.length_drop]; omega)
  have h := words_one ((sl.drop f).take (sl.length - f)) (noBl (Nat.le_refl _) hf hn)
  rw [← h, e]
def WordI (sl : List UInt8) (k f : Nat) (ys : List ByteArray) : Prop :=
  (k ≤ sl.length ∧ f ≤ k ∧ (∀ j, f ≤ j → j < k → sl[j]? ≠ some 32) ∧ wordsL sl = ys.map bytesOf ++ wordsL (sl.drop f)) ∨ (k = sl.length + 1 ∧ wordsL sl = ys.map bytesOf)
theorem bytesOf_extract (s : ByteArray) (f k : Nat) : bytesOf (s.extract f k) = (s.data.toList.drop f).take (k - f) := by unfold bytesOf; rw [Lib.extract_eq]
theorem wordI_blank {s : ByteArray} {k f : Nat} {ys : List ByteArray} (h : WordI s.data.toList k f ys) (hk : k < s.size) (hc : s[k] = 32) : WordI s.data.toList (k + 1) (k + 1) (ys ++ [s.extract f k]) := by
  have hl := size_length s
  rcases h with ⟨h1, h2, h3, h4⟩ | ⟨h1, _⟩
  · refine .inl ⟨by omega, Nat.le_refl _, fun j hj hj2 => by omega, ?_⟩
    rw [h4, words_step (by omega) h2 hc h3, List.map_append, List.append_assoc]
    congr 1
    show _ = [bytesOf (s.extract f k)] ++ _
    rw [bytesOf_extract]; rfl
  · omega
theorem wordI_end {s : ByteArray} {f : Nat} {ys : List ByteArray} (h : WordI s.data.toList s.size f ys) : WordI s.data.toList (s.size + 1) (s.size + 1) (ys ++ [s.extract f s.size]) := by
  have hl := size_length s
  rcases h with ⟨h1, h2, h3, h4⟩ | ⟨h1, _⟩
  · refine .inr ⟨by omega, ?_⟩
    rw [h4, words_end (by omega) (by rw [hl]; exact h3), List.map_append]
    congr 1
    show _ = [bytesOf (s.extract f s.size)]
    rw [bytesOf_extract, hl]
  · omega
theorem wordI_other {s : ByteArray} {k f : Nat} {ys : List ByteArray} (h : WordI s.data.toList k f ys) (hk : k < s.size) (hc : s[k] ≠ 32) : WordI s.data.toList (k + 1) f ys := by
  have hl := size_length s
  rcases h with ⟨h1, h2, h3, h4⟩ | ⟨h1, _⟩
  · refine .inl ⟨by omega, by omega, fun j hj hj2 => ?_, h4⟩
    rcases Nat.lt_or_ge j k with hj3 | hj3
    · exact h3 j hj hj3
    · obtain rfl : j = k := by omega
      rw [List.getElem?_eq_getElem (by omega)]
      intro e
      exact hc (Option.some.inj e)
  · omega
theorem oneT_rd (w : World) (t : ByteArray) : RdS (w.alloc (.cells #[.string t] 9)) (.slice (some ⟨w.heap.size, 0, none⟩) 1 1) [t] := by
  refine ⟨_, _, rfl, by simp, by unfold maxLen; omega, .inr ⟨w.heap.size, 0, rfl, fun i hi => ?_⟩⟩
  have : i = 0 := by simpa using hi
  subst this
  simp
def WordsP (w : World) (s : ByteArray) (e : Ending) (w' : World) : Prop := ∃ (v : Value) (ys : List ByteArray), e = .returned v ∧ ys.map bytesOf = wordsL s.data.toList ∧ RdS w' v ys ∧ Below w.heap.size w w'
theorem words_any (s : ByteArray) (w : World) (hs : s.size ≤ 1048576) :
    Calls Tryz.prog 55 #[.string s] w fun e w' => WordsP w s e w' := by
  have hl := size_length s
  have o0 := ownS_none w
  have b0 := below1 w (.cells #[] 9)
  go_enter Tryz.func55, Tryz.ntmps55
  go_wp2
  go_loopw [3, 4, 5] (fun oo ff ii wr => ∃ (k f : Nat) (ys : List ByteArray), ii = .int .i64 k ∧ ff = .int .i64 f ∧ k ≤ s.size + 1 ∧ f ≤ k ∧ ys.length ≤ k ∧ Hid (WordI s.data.toList k f ys) ∧ OwnS wr w.heap.size oo ys ∧ Below w.heap.size w wr) (fun _ _ i _ => s.size + 1 - (intOf i).toNat)
  case atStart => exact ⟨0, 0, [], rfl, rfl, by omega, Nat.le_refl _, Nat.le_refl _, .inl ⟨Nat.zero_le _, Nat.le_refl _, fun j h1 h2 => by omega, rfl⟩, o0, b0⟩
  case round =>
    clear o0 b0
    obtain ⟨k, f, ys, rfl, rfl, hk, hf, hy, HI, ho, hb⟩ := hrel
    have hs1 := hb.size
    by_cases hle : k ≤ s.size
    · have c1 : (0 : Int) ≤ (f : Int) := by omega
      have c2 : (f : Int) ≤ (k : Int) := by omega
      have c3 : (k : Int) ≤ (s.size : Int) := by omega
      have ho2 := ho.below (below1 wr (.cells #[.string (s.extract f k)] 9))
      have hr2 := oneT_rd wr (s.extract f k)
      have hb2 := hb.trans ((below1 wr (.cells #[.string (s.extract f k)] 9)).mono hs1)
      by_cases hke : k = s.size
      · have HE : Hid (WordI s.data.toList (k + 1) (k + 1) (ys ++ [s.extract f k])) := by unfold Hid; subst hke; exact wordI_end HI.out
        have hq : ((k : Int) == (s.size : Int)) = true := by simp [hke]
        clear hke HI
        go_wp2_with (at_builtin; (refine wpList_append_txts rfl _ _ rfl w.heap.size _ _ ys [s.extract f k] rfl rfl ho2 hr2 ?c1 (by simp; omega) (by simp; omega) ?_))
        case c1 => intro n c e; cases e
        intro v' w3 hown' hgrow
        have hb3 := pushS_below ho (Nat.le_refl _) hb hs1 hgrow
        clear ho2 hr2 hb2 ho hb hgrow
        go_wp2
        go_roundw
        case rel => exact ⟨k + 1, k + 1, _, by go_num, by go_num, by omega, Nat.le_refl _, by rw [List.length_append]; simp; omega, HE, hown', hb3⟩
        case measure => simp [intOf]; omega
      · have hlt : k < s.size := by omega
        have hq : ((k : Int) == (s.size : Int)) = false := by simp; omega
        by_cases hc : s[k] = 32
        · have HE : Hid (WordI s.data.toList (k + 1) (k + 1) (ys ++ [s.extract f k])) := wordI_blank HI.out hlt hc
          have hq2 : ((s[k].toNat : Int) == 32) = true := by rw [hc]; rfl
          clear HI hc
          go_wp2_with (at_builtin; (refine wpList_append_txts rfl _ _ rfl w.heap.size _ _ ys [s.extract f k] rfl rfl ho2 hr2 ?c1 (by simp; omega) (by simp; omega) ?_))
          case c1 => intro n c e; cases e
          intro v' w3 hown' hgrow
          have hb3 := pushS_below ho (Nat.le_refl _) hb hs1 hgrow
          clear ho2 hr2 hb2 ho hb hgrow
          go_wp2
          go_roundw
          case rel => exact ⟨k + 1, k + 1, _, by go_num, by go_num, by omega, Nat.le_refl _, by rw [List.length_append]; simp; omega, HE, hown', hb3⟩
          case measure => simp [intOf]; omega
        · have HE : Hid (WordI s.data.toList (k + 1) f ys) := wordI_other HI.out hlt hc
          have hq2 : ((s[k].toNat : Int) == 32) = false := by
            simp only [beq_eq_false_iff_ne]
            intro e
            exact hc (UInt8.toNat_inj.1 (by show s[k].toNat = 32; omega))
          clear HI hc ho2 hr2 hb2
          go_wp2
          go_roundw
          case rel => exact ⟨k + 1, f, ys, by go_num, rfl, by omega, by omega, by omega, HE, ho, hb⟩
          case measure => simp [intOf]; omega
    · have hke : k = s.size + 1 := by omega
      have HF : Hid (ys.map bytesOf = wordsL s.data.toList) := by
        rcases HI.out with ⟨h1, _⟩ | ⟨_, h⟩
        · omega
        · exact h.symm
      clear HI hke
      go_wp2
      go_ret
      exact ⟨_, ys, rfl, HF.out, ho.rd, hb⟩
open Go.RowKit
abbrev lfB : ByteArray := ⟨#[10]⟩
def recT (t : ByteArray) : ByteArray := itoaS (t.size : Int) ++ blankB ++ itoaS (dig 1 t.data.toList : Int) ++ lfB ++ t ++ lfB
def recS (t : ByteArray) : ByteArray := if t.size ≤ 3000 then recT t else ⟨#[]⟩
def szL (t : ByteArray) : List UInt8 := Lib.decDigits t.size
def dgL (t : ByteArray) : List UInt8 := Lib.decDigits (dig 1 t.data.toList)
theorem itoa_nat (n : Nat) : (itoaS (n : Int)).data.toList = Lib.decDigits n := by
  unfold itoaS
  rw [Lib.itoa_nonneg]
theorem ba_ext {a b : ByteArray} (h : a.data.toList = b.data.toList) : a = b := by
  cases a; cases b; simp_all
theorem recT_list (t : ByteArray) : (recT t).data.toList = szL t ++ 32 :: (dgL t ++ 10 :: (t.data.toList ++ [10])) := by
  unfold recT szL dgL
  rw [app_toList, app_toList, app_toList, app_toList, app_toList, itoa_nat, itoa_nat]
  simp
theorem szL_dig (t : ByteArray) : ∀ b ∈ szL t, isDig b := dec_digs _ _ (Nat.le_refl _)
theorem dgL_dig (t : ByteArray) : ∀ b ∈ dgL t, isDig b := dec_digs _ _ (Nat.le_refl _)
theorem szL_val (t : ByteArray) : valD 0 (szL t) = t.size := dec_val _ _ (Nat.le_refl _)
theorem no_dig {l : List UInt8} {c : UInt8} (h : ∀ b ∈ l, isDig b) (hc : ¬ isDig c) : c ∉ l := fun hm => hc (h c hm)
theorem not_dig_32 : ¬ isDig 32 := by unfold isDig; decide
theorem not_dig_10 : ¬ isDig 10 := by unfold isDig; decide
def isRec (d : List UInt8) (t : ByteArray) : Prop := t.size ≤ 3000 ∧ ∃ r, d = szL t ++ 32 :: (dgL t ++ 10 :: (t.data.toList ++ 10 :: r))
theorem isRec_iff {d : List UInt8} {t : ByteArray} : isRec d t ↔ t.size ≤ 3000 ∧ (recT t).data.toList <+: d := by
  unfold isRec
  refine and_congr_right fun _ => ⟨?_, ?_⟩
  · rintro ⟨r, rfl⟩
    exact ⟨r, by rw [recT_list]; simp⟩
  · rintro ⟨r, rfl⟩
    exact ⟨r, by rw [recT_list]; simp⟩
theorem split_one {c : UInt8} : ∀ (a a' x x' : List UInt8), c ∉ a → c ∉ a' → a ++ c :: x = a' ++ c :: x' → a = a' ∧ x = x'
  | [], [], x, x', _, _, h => by simpa using h
  | [], b :: a', x, x', _, h2, h => by
    injection h with h3 h4
    exact absurd (h3 ▸ List.mem_cons_self) h2
  | b :: a, [], x, x', h1, _, h => by
    injection h with h3 h4
    exact absurd (h3 ▸ List.mem_cons_self) h1
  | b :: a, b' :: a', x, x', h1, h2, h => by
    injection h with h3 h4
    obtain ⟨rfl, rfl⟩ := split_one a a' x x' (fun h => h1 (List.mem_cons_of_mem _ h)) (fun h => h2 (List.mem_cons_of_mem _ h)) h4
    exact ⟨by rw [h3], rfl⟩
theorem isRec_unique {d : List UInt8} {t t' : ByteArray} (h : isRec d t) (h' : isRec d t') : t = t' := by
  obtain ⟨_, r, rfl⟩ := h
  obtain ⟨_, r', e⟩ := h'
  obtain ⟨e1, e2⟩ := split_one _ _ _ _ (no_dig (szL_dig _) not_dig_32) (no_dig (szL_dig _) not_dig_32) e
  obtain ⟨_, e3⟩ := split_one _ _ _ _ (no_dig (dgL_dig _) not_dig_10) (no_dig (dgL_dig _) not_dig_10) e2
  have hs : t.size = t'.size := by rw [← szL_val t, e1, szL_val]
  have hl := size_length t
  have hl' := size_length t'
  exact ba_ext (List.append_inj e3 (by omega)).1
theorem szL_at {d : List UInt8} {t : ByteArray} (h : isRec d t) {k : Nat} (hk : k < (szL t).length) : ∃ hd : k < d.length, d[k] = (szL t)[k] := by
  obtain ⟨_, r, rfl⟩ := h
  exact ⟨by rw [List.length_append]; omega, List.getElem_append_left hk⟩
theorem rec_len {d : List UInt8} {t : ByteArray} (h : isRec d t) : (szL t).length + 1 + (dgL t).length + 1 + t.size + 1 ≤ d.length := by
  obtain ⟨_, r, rfl⟩ := h
  have := size_length t
  simp only [List.length_append, List.length_cons]
  omega
theorem blank_at {d : List UInt8} {t : ByteArray} (h : isRec d t) : d[(szL t).length]? = some 32 := by
  obtain ⟨_, r, rfl⟩ := h
  simp
theorem dgL_at {d : List UInt8} {t : ByteArray} (h : isRec d t) {k : Nat} (hk : k < (dgL t).length) : d[(szL t).length + 1 + k]? = some (dgL t)[k] := by
  obtain ⟨_, r, rfl⟩ := h
  rw [List.getElem?_append_right (by omega), show (szL t).length + 1 + k - (szL t).length = k + 1 by omega, List.getElem?_cons_succ, List.getElem?_append_left hk, List.getElem?_eq_getElem hk]
theorem lf_at {d : List UInt8} {t : ByteArray} (h : isRec d t) : d[(szL t).length + 1 + (dgL t).length]? = some 10 := by
  obtain ⟨_, r, rfl⟩ := h
  rw [List.getElem?_append_right (by omega), show (szL t).length + 1 + (dgL t).length - (szL t).length = (dgL t).length + 1 by omega, List.getElem?_cons_succ, List.getElem?_append_right (Nat.le_refl _)]
  simp
theorem text_at {d : List UInt8} {t : ByteArray} (h : isRec d t) : (d.drop ((szL t).length + 1 + (dgL t).length + 1)).take t.size = t.data.toList := by
  obtain ⟨_, r, rfl⟩ := h
  have e : szL t ++ 32 :: (dgL t ++ 10 :: (t.data.toList ++ 10 :: r)) = (szL t ++ 32 :: (dgL t ++ [10])) ++ (t.data.toList ++ 10 :: r) := by simp
  have hl : (szL t).length + 1 + (dgL t).length + 1 = (szL t ++ 32 :: (dgL t ++ [10])).length := by simp; omega
  rw [e, hl, List.drop_left, ← size_length t, List.take_left]
theorem take_at {d : List UInt8} {t : ByteArray} (h : isRec d t) : d.take ((szL t).length + 1 + (dgL t).length + 1 + t.size + 1) = (recT t).data.toList := by
  obtain ⟨r, rfl⟩ := (isRec_iff.1 h).2
  have hl : (szL t).length + 1 + (dgL t).length + 1 + t.size + 1 = (recT t).data.toList.length := by
    rw [recT_list, ← size_length t]
    simp; omega
  rw [hl, List.take_left]
theorem recT_len (t : ByteArray) : (recT t).size = (szL t).length + 1 + (dgL t).length + 1 + t.size + 1 := by
  rw [← size_length, recT_list, ← size_length t]
  simp; omega
def S0 (d : List UInt8) : Prop := ∀ t, ¬ isRec d t
def S1 (d : List UInt8) (k n : Nat) : Prop := ∀ t, isRec d t → k ≤ (szL t).length ∧ n = valD 0 ((szL t).take k)
def S2 (d : List UInt8) (k n : Nat) : Prop := ∀ t, isRec d t → n = t.size ∧ (szL t).length + 1 ≤ k ∧ k ≤ (szL t).length + 1 + (dgL t).length
def S3 (d : List UInt8) (k n : Nat) : Prop := ∀ t, isRec d t → n = t.size ∧ k = (szL t).length + 1 + (dgL t).length + 1
theorem s1_start (d : List UInt8) : S1 d 0 0 := fun _ _ => ⟨Nat.zero_le _, rfl⟩
theorem s1_digit {d : List UInt8} {k n : Nat} (h : S1 d k n) (hk : k < d.length) (hd : isDig d[k]) : S1 d (k + 1) (10 * n + (d[k].toNat - 48)) := by
  intro t ht
  obtain ⟨h1, h2⟩ := h t ht
  have hlt : k < (szL t).length := by
    rcases Nat.lt_or_ge k (szL t).length with h | h
    · exact h
    · obtain rfl : k = (szL t).length := by omega
      have e := blank_at ht
      rw [List.getElem?_eq_getElem hk] at e
      rw [Option.some.inj e] at hd
      exact absurd hd not_dig_32
  obtain ⟨_, e⟩ := szL_at ht hlt
  refine ⟨hlt, ?_⟩
  rw [List.take_succ_eq_append_getElem hlt, valD_append, ← h2, e]
  show _ = n * 10 + _
  rw [Nat.mul_comm]
theorem s1_blank {d : List UInt8} {k n : Nat} (h : S1 d k n) (hk : k < d.length) (hd : d[k] = 32) : S2 d (k + 1) n := by
  intro t ht
  obtain ⟨h1, h2⟩ := h t ht
  have hlt : k = (szL t).length := by
    rcases Nat.lt_or_ge k (szL t).length with h | h
    · obtain ⟨_, e⟩ := szL_at ht h
      have := szL_dig t _ (List.getElem_mem h)
      rw [← e, hd] at this
      exact absurd this not_dig_32
    · omega
  subst hlt
  rw [List.take_of_length_le (Nat.le_refl _), szL_val] at h2
  exact ⟨h2, by omega, by omega⟩
theorem s1_end {d : List UInt8} {k n : Nat} (h : S1 d k n) (hk : d.length ≤ k) : S0 d := by
  intro t ht
  have := (h t ht).1
  have := rec_len ht
  omega
theorem s1_other {d : List UInt8} {k n : Nat} (h : S1 d k n) (hk : k < d.length) (h1 : ¬ isDig d[k]) (h2 : d[k] ≠ 32) : S0 d := by
  intro t ht
  have := (h t ht).1
  rcases Nat.lt_or_ge k (szL t).length with h3 | h3
  · obtain ⟨_, e⟩ := szL_at ht h3
    rw [e] at h1
    exact h1 (szL_dig t _ (List.getElem_mem h3))
  · obtain rfl : k = (szL t).length := by omega
    have e := blank_at ht
    rw [List.getElem?_eq_getElem hk] at e
    exact h2 (Option.some.inj e)
theorem s1_big {d : List UInt8} {k n : Nat} (h : S1 d k n) (hn : 3000 < n) : S0 d := by
  intro t ht
  have h2 := (h t ht).2
  have h3 := valD_le (szL t) k
  rw [szL_val] at h3
  have := ht.1
  omega
theorem s2_digit {d : List UInt8} {k n : Nat} (h : S2 d k n) (hk : k < d.length) (hd : isDig d[k]) : S2 d (k + 1) n := by
  intro t ht
  obtain ⟨h1, h2, h3⟩ := h t ht
  refine ⟨h1, by omega, ?_⟩
  rcases Nat.lt_or_ge k ((szL t).length + 1 + (dgL t).length) with h | h
  · omega
  · obtain rfl : k = (szL t).length + 1 + (dgL t).length := by omega
    have e := lf_at ht
    rw [List.getElem?_eq_getElem hk] at e
    rw [Option.some.inj e] at hd
    exact absurd hd not_dig_10
theorem s2_in {d : List UInt8} {t : ByteArray} {k : Nat} (ht : isRec d t) (hk : k < d.length) (h2 : (szL t).length + 1 ≤ k) (h3 : k < (szL t).length + 1 + (dgL t).length) : isDig d[k] := by
  have e := dgL_at ht (k := k - ((szL t).length + 1)) (by omega)
  rw [show (szL t).length + 1 + (k - ((szL t).length + 1)) = k by omega, List.getElem?_eq_getElem hk] at e
  rw [Option.some.inj e]
  exact dgL_dig t _ (List.getElem_mem _)
theorem s2_lf {d : List UInt8} {k n : Nat} (h : S2 d k n) (hk : k < d.length) (hd : d[k] = 10) : S3 d (k + 1) n := by
  intro t ht
  obtain ⟨h1, h2, h3⟩ := h t ht
  refine ⟨h1, ?_⟩
  rcases Nat.lt_or_ge k ((szL t).length + 1 + (dgL t).length) with h | h
  · have := s2_in ht hk h2 h
    rw [hd] at this
    exact absurd this not_dig_10
  · omega
theorem s2_end {d : List UInt8} {k n : Nat} (h : S2 d k n) (hk : d.length ≤ k) : S0 d := by
  intro t ht
  have := (h t ht).2.2
  have := rec_len ht
  omega
theorem s2_other {d : List UInt8} {k n : Nat} (h : S2 d k n) (hk : k < d.length) (hd : ¬ isDig d[k]) (hl : d[k] ≠ 10) : S0 d := by
  intro t ht
  obtain ⟨h1, h2, h3⟩ := h t ht
  rcases Nat.lt_or_ge k ((szL t).length + 1 + (dgL t).length) with h | h
  · exact hd (s2_in ht hk h2 h)
  · obtain rfl : k = (szL t).length + 1 + (dgL t).length := by omega
    have e := lf_at ht
    rw [List.getElem?_eq_getElem hk] at e
    exact hl (Option.some.inj e)
theorem s3_short {d : List UInt8} {k n : Nat} (h : S3 d k n) (hk : d.length ≤ k + n) : S0 d := by
  intro t ht
  obtain ⟨rfl, rfl⟩ := h t ht
  have := rec_len ht
  omega
theorem s3_no {d : List UInt8} {k n : Nat} (h : S3 d k n) {x : ByteArray} (hx : x.data.toList = (d.drop k).take n) (hne : d.take (k + n + 1) ≠ (recT x).data.toList) : S0 d := by
  intro t ht
  obtain ⟨rfl, rfl⟩ := h t ht
  rw [text_at ht] at hx
  obtain rfl := ba_ext hx
  exact hne (take_at ht)
theorem s3_yes {d : List UInt8} {x : ByteArray} {m : Nat} (hx : x.size ≤ 3000) (he : d.take m = (recT x).data.toList) : isRec d x :=
  isRec_iff.2 ⟨hx, by rw [← he]; exact List.take_prefix _ _⟩
def RecP (d : List UInt8) (e : Ending) : Prop :=
  (∃ t, isRec d t ∧ e = .returned (.tuple #[.string t, .int .i64 ((recT t).size : Int)])) ∨ (S0 d ∧ e = .returned (.tuple #[.string ⟨#[]⟩, .int .i64 0]))
theorem recT_size {t : ByteArray} (h : t.size ≤ 3000) : 4 ≤ (recT t).size ∧ (recT t).size ≤ 4000 := by
  have hsa := itoaS_size (t.size : Int) (by omega) (by omega)
  have hD : dig 1 t.data.toList < 2147483647 := dig_lt' 1 _ (by decide)
  have hsb := itoaS_size (dig 1 t.data.toList : Int) (by omega) (by omega)
  rw [← size_length, itoa_nat] at hsa hsb
  rw [recT_len]
  unfold szL dgL
  have h1 : 1 ≤ (Lib.decDigits t.size).length := by rw [dec_left]; simp
  have h2 : 1 ≤ (Lib.decDigits (dig 1 t.data.toList)).length := by rw [dec_left]; simp
  omega
def RecsP (d : List UInt8) (ts : List ByteArray) (n : Nat) : Prop :=
  (∀ t ∈ ts, t.size ≤ 3000) ∧ n ≤ d.length ∧ d.take n = (ts.map fun t => (recT t).data.toList).flatten ∧ S0 (d.drop n)
def lenR (ts : List ByteArray) : Nat := (ts.map fun t => (recT t).data.toList).flatten.length
theorem recs_nil {d : List UInt8} (h : S0 d) : RecsP d [] 0 := ⟨(fun t h => by cases h), Nat.zero_le _, rfl, h⟩
theorem recs_cons {d : List UInt8} {t : ByteArray} {ts : List ByteArray} {n : Nat} (h : isRec d t) (hr : RecsP (d.drop (recT t).size) ts n) : RecsP d (t :: ts) ((recT t).size + n) := by
  obtain ⟨h1, h2, h3, h4⟩ := hr
  obtain ⟨r, hd⟩ := (isRec_iff.1 h).2
  have hl := size_length (recT t)
  subst hd
  rw [← hl, List.drop_left] at h2 h3 h4
  refine ⟨fun s hs => ?_, ?_, ?_, ?_⟩
  · rcases List.mem_cons.1 hs with rfl | hs
    · exact h.1
    · exact h1 s hs
  · rw [List.length_append]; omega
  · rw [← hl, List.take_append, List.take_of_length_le (by omega), show (recT t).data.toList.length + n - (recT t).data.toList.length = n by omega, h3]
    rfl
  · rw [← hl, ← List.drop_drop, List.drop_left]
    exact h4
theorem recs_ex : ∀ (m : Nat) (d : List UInt8), d.length ≤ m → ∃ ts n, RecsP d ts n
  | 0, d, h => ⟨[], 0, recs_nil fun t ht => by have := rec_len ht; omega⟩
  | m + 1, d, h => by
    by_cases hr : ∃ t, isRec d t
    · obtain ⟨t, ht⟩ := hr
      have hs := recT_size ht.1
      obtain ⟨ts, n, hp⟩ := recs_ex m (d.drop (recT t).size) (by rw [List.length_drop]; omega)
      exact ⟨_, _, recs_cons ht hp⟩
    · exact ⟨[], 0, recs_nil fun t ht => hr ⟨t, ht⟩⟩
theorem lenR_ge : ∀ ts : List ByteArray, ts.length ≤ lenR ts
  | [] => Nat.zero_le _
  | t :: ts => by
    have ih := lenR_ge ts
    have h1 := recT_len t
    unfold lenR at ih ⊢
    rw [List.map_cons, List.flatten_cons, List.length_append, size_length, List.length_cons]
    omega
theorem recs_len {d : List UInt8} {ts : List ByteArray} {n : Nat} (h : RecsP d ts n) : ts.length ≤ n := by
  have h1 := lenR_ge ts
  unfold lenR at h1
  rw [← h.2.2.1, List.length_take] at h1
  omega
theorem recs_next {d : List UInt8} {ts : List ByteArray} {n : Nat} (h : RecsP d ts n) :
    (∃ t r m, ts = t :: r ∧ n = (recT t).size + m ∧ isRec d t ∧ RecsP (d.drop (recT t).size) r m) ∨ (ts = [] ∧ n = 0 ∧ S0 d) := by
  obtain ⟨h1, h2, h3, h4⟩ := h
  have hl : n = lenR ts := by
    unfold lenR
    rw [← h3, List.length_take]
    omega
  cases ts with
  | nil => 
    obtain rfl : n = 0 := hl
    exact .inr ⟨rfl, rfl, h4⟩
  | cons t r =>
    refine .inl ⟨t, r, lenR r, rfl, ?_, ?_, ?_, ?_, ?_, ?_⟩
    · rw [hl]
      unfold lenR
      rw [List.map_cons, List.flatten_cons, List.length_append, size_length]
    · refine isRec_iff.2 ⟨h1 t List.mem_cons_self, ?_⟩
      rw [List.map_cons, List.flatten_cons] at h3
      have := List.take_prefix n d
      rw [h3] at this
      exact (List.prefix_append _ _).trans this
    · exact fun s hs => h1 s (List.mem_cons_of_mem _ hs)
    · rw [List.length_drop]
      rw [hl] at h2
      unfold lenR at h2 ⊢
      rw [List.map_cons, List.flatten_cons, List.length_append, size_length] at h2
      omega
    · rw [hl] at h3
      unfold lenR at h3 ⊢
      rw [List.map_cons, List.flatten_cons, List.length_append, size_length] at h3
      rw [List.take_drop, h3]
      exact List.drop_left' (size_length _)
    · rw [List.drop_drop]
      rw [hl] at h4
      unfold lenR at h4 ⊢
      rw [List.map_cons, List.flatten_cons, List.length_append, size_length] at h4
      exact h4
end Go.Proofs.YtpbbahpndgigjaaGreatDoor
