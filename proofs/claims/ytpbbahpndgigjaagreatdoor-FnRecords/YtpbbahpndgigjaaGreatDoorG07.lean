/- The contract of the model's EntriesOk. Plain facts on rows of writes (three cells each) that a call owns or reads. The contracts of the law's measure, copy and comparison of writes. The contracts of the model's look at a batch and of the program's entry of a write. Plain facts on the texts that some bytes hold one behind the other. -/
import Derived.Test.YtpbbahpndgigjaaGreatDoorG06
import Derived.Deep.RegionHeld3
import Derived.Deep.RegionLaw
namespace Go.Proofs.YtpbbahpndgigjaaGreatDoor
set_option maxHeartbeats 16000000
set_option maxRecDepth 100000
open Go.RowKit
theorem tkA (i d : Nat) {P : Program} {ops : Array Oper} {Q : Exit → Act → World → Prop} {md : Region.Mode} {S : World → Prop} {oi : Oper} {v : Value} {fuel : Nat} {listed : Array Bool} {a : Act} {w : World} (hS : S w)
    (h : wpAnyH P md ops (NoPanic Q) S fuel (listed.setIfInBounds i true) (a.put (some d) v) w) (hi : ops[i]? = some oi := by rfl) (hd : oi.dst = some d := by rfl)
    (hs : Region.noSelect ops = true := by kernel_rfl) (hf : Region.free md ops listed i = true := by kernel_rfl) (hr : (Region.ready md ops listed).contains i = true := by kernel_rfl) (hw : Region.wanted oi (yielded ops a.tmps) = true := by kernel_rfl)
    (hy : ∀ w, S w → (execOp a.eval oi).run P w = .ok (.value v) w := by intro w hS; (try dsimp only [EntAt, Nat.zero_add] at hS); go_simp; (try with_reducible rfl)) : wpAnyH P md ops (NoPanic Q) S (fuel + 1) listed a w :=
  takeH hi hd hs hf hr (fun _ _ _ h => h) (Or.inl ⟨hw, hy⟩) hS h
theorem l3Entry_yes (a : Ent) (w : World) (hf : Fits a) (h : okE a = true) :
    Calls Tryz.prog 61 #[.agg #[.string a.key, .string a.val, .int .i64 a.seq, .bool a.gone]] w fun e w' => e = .returned (.bool true) ∧ Below w.heap.size w w' := by
  have := l3Entry_any a w hf; rwa [h] at this
theorem l3Entry_no (a : Ent) (w : World) (hf : Fits a) (h : okE a = false) :
    Calls Tryz.prog 61 #[.agg #[.string a.key, .string a.val, .int .i64 a.seq, .bool a.gone]] w fun e w' => e = .returned (.bool false) ∧ Below w.heap.size w w' := by
  have := l3Entry_any a w hf; rwa [h] at this
theorem specEntriesOk_any (v : Value) (es : List Ent) (w : World) (hr : RdE w v es) (hf : ∀ e ∈ es, Fits e) :
    Calls Tryz.prog 115 #[v] w fun e w' => e = .returned (.bool (okL es)) ∧ Below w.heap.size w w' := by
  obtain ⟨a, cap, hv, hl, hm, _⟩ := id hr
  unfold maxLen at hm
  subst hv
  have HF : Hid (∀ e ∈ es, Fits e) := hf
  clear hf
  by_cases hbig : 300 < es.length
  · go_enter Tryz.func115, Tryz.ntmps115
    go_wp2
    go_ret
    exact ⟨ret_bool (by simp [okL]; omega), Below.refl _ _⟩
  · go_enter Tryz.func115, Tryz.ntmps115
    go_wp2
    go_loopw [3] (fun i wr => ∃ k : Nat, k ≤ es.length ∧ i = .int .i64 k ∧ Hid (okTo es k = true) ∧ Below w.heap.size w wr) (fun i _ => es.length - (intOf i).toNat)
    case atStart => exact ⟨0, Nat.zero_le _, rfl, rfl, Below.refl _ _⟩
    case round =>
      obtain ⟨k, hk, rfl, HO, hb⟩ := hrel
      by_cases hlt : k < es.length
      · obtain ⟨b, off, rfl, hc⟩ := hr.at rfl k hlt
        have hc2 := hc.below hb
        have hlt2 := hc2.lt
        obtain ⟨c0, c1, c2, c3⟩ := hc2
        have hfk := HF.out _ (List.getElem_mem hlt)
        rw [← nth_eq hlt] at hfk
        obtain ⟨x, hx⟩ : ∃ x, x = nth es k := ⟨_, rfl⟩
        rw [← hx] at c0 c1 c2 c3 hfk
        have HX : Hid (x = nth es k) := hx
        clear hx hc
        cases hok : okE x with
        | false =>
          have RES : Hid (okL es = false) := okL_no_at hlt (by unfold okAt; rw [← HX.out, hok]; rfl)
          go_wp2_with fail
          refine wp_region_noPanic ?_
          refine wp_region_held_drew (S := fun w' => EntAt w' b (off + k * 4) x) (by kernel_rfl) ⟨c0, c1, c2, c3⟩ (fun hH => ?_)
          refine tkA 0 13 hH ?_; try simp only [Act.put, sA, sZ, sS]
          refine tkA 1 14 hH ?_; try simp only [Act.put, sA, sZ, sS]
          refine tkA 2 15 hH ?_; try simp only [Act.put, sA, sZ, sS]
          refine tkA 3 16 hH ?_; try simp only [Act.put, sA, sZ, sS]
          refine wpAnyH_ready (rs := [4]) (by kernel_rfl) (by simp) ?_
          refine AllReadyH.cons rfl (fun K hK => ?_) AllReadyH.nil
          go_simp
          refine (l3Entry_no x _ hfk hok).mono ?_
          rintro e w' ⟨rfl, hb'⟩
          refine hK.out _ _ (hH.below hb') (fun hA => ?_)
          clear hK K
          try simp only [Act.put, sA, sZ, sS]
          refine tkA 5 18 hA ?_; try simp only [Act.put, sA, sZ, sS]
          refine tkA 6 19 hA ?_; try simp only [Act.put, sA, sZ, sS]
          refine tkS 7 20 hA ?_; try simp only [Act.put, sA, sZ, sS]
          refine tkS 8 21 hA ?_; try simp only [Act.put, sA, sZ, sS]
          refine tkS 9 22 hA ?_; try simp only [Act.put, sA, sZ, sS]
          refine tkS 10 23 hA ?_; try simp only [Act.put, sA, sZ, sS]
          refine tkS 11 24 hA ?_; try simp only [Act.put, sA, sZ, sS]
          refine tkS 12 25 hA ?_; try simp only [Act.put, sA, sZ, sS]
          refine tkS 13 26 hA ?_; try simp only [Act.put, sA, sZ, sS]
          refine tkS 14 27 hA ?_; try simp only [Act.put, sA, sZ, sS]
          refine tkS 15 28 hA ?_; try simp only [Act.put, sA, sZ, sS]
          refine tkS 16 29 hA ?_; try simp only [Act.put, sA, sZ, sS]
          refine tkS 17 30 hA ?_; try simp only [Act.put, sA, sZ, sS]
          refine tkS 18 31 hA ?_; try simp only [Act.put, sA, sZ, sS]
          refine tkS 19 32 hA ?_; try simp only [Act.put, sA, sZ, sS]
          refine tkS 20 33 hA ?_; try simp only [Act.put, sA, sZ, sS]
          refine tkS 21 34 hA ?_; try simp only [Act.put, sA, sZ, sS]
          refine tkA 22 35 hA ?_; try simp only [Act.put, sA, sZ, sS]
          refine wpAnyH_done (by kernel_rfl) ?_ _
          refine NoPanic.normal ?_
          go_wp2
          go_ret
          exact ⟨ret_bool RES.out.symm, hb.drew.trans (hb'.mono hb.size)⟩
        | true =>
          by_cases hk0 : k = 0
          · skip
            have HO2 : Hid (okTo es (k + 1) = true) := by
              show _ = _
              rw [okTo_succ, HO.out]; unfold okAt; rw [← HX.out, hok]; simp [hk0]
            have hkn : decide (0 < k) = false := by simpa using hk0
            clear hk0
            go_wp2_with fail
            refine wp_region_noPanic ?_
            refine wp_region_held_drew (S := fun w' => EntAt w' b (off + k * 4) x) (by kernel_rfl) ⟨c0, c1, c2, c3⟩ (fun hH => ?_)
            refine tkA 0 13 hH ?_; try simp only [Act.put, sA, sZ, sS]
            refine tkA 1 14 hH ?_; try simp only [Act.put, sA, sZ, sS]
            refine tkA 2 15 hH ?_; try simp only [Act.put, sA, sZ, sS]
            refine tkA 3 16 hH ?_; try simp only [Act.put, sA, sZ, sS]
            refine wpAnyH_ready (rs := [4]) (by kernel_rfl) (by simp) ?_
            refine AllReadyH.cons rfl (fun K hK => ?_) AllReadyH.nil
            go_simp
            refine (l3Entry_yes x _ hfk hok).mono ?_
            rintro e w' ⟨rfl, hb'⟩
            refine hK.out _ _ (hH.below hb') (fun hA => ?_)
            clear hK K
            try simp only [Act.put, sA, sZ, sS]
            refine tkA 5 18 hA ?_; try simp only [Act.put, sA, sZ, sS]
            refine tkA 6 19 hA ?_; try simp only [Act.put, sA, sZ, sS]
            refine tkA 7 20 hA ?_; try simp only [Act.put, sA, sZ, sS]
            refine tkA 8 21 hA ?_; try simp only [Act.put, sA, sZ, sS]
            refine tkA 9 22 hA ?_; try simp only [Act.put, sA, sZ, sS]
            refine tkS 10 23 hA ?_; try simp only [Act.put, sA, sZ, sS]
            refine tkS 11 24 hA ?_; try simp only [Act.put, sA, sZ, sS]
            refine tkS 12 25 hA ?_; try simp only [Act.put, sA, sZ, sS]
            refine tkS 13 26 hA ?_; try simp only [Act.put, sA, sZ, sS]
            refine tkS 14 27 hA ?_; try simp only [Act.put, sA, sZ, sS]
            refine tkS 15 28 hA ?_; try simp only [Act.put, sA, sZ, sS]
            refine tkS 16 29 hA ?_; try simp only [Act.put, sA, sZ, sS]
            refine tkS 17 30 hA ?_; try simp only [Act.put, sA, sZ, sS]
            refine tkS 18 31 hA ?_; try simp only [Act.put, sA, sZ, sS]
            refine tkS 19 32 hA ?_; try simp only [Act.put, sA, sZ, sS]
            refine tkS 20 33 hA ?_; try simp only [Act.put, sA, sZ, sS]
            refine tkA 21 34 hA ?_; try simp only [Act.put, sA, sZ, sS]
            refine tkA 22 35 hA ?_; try simp only [Act.put, sA, sZ, sS]
            refine wpAnyH_done (by kernel_rfl) ?_ _
            refine NoPanic.normal ?_
            go_wp2
            go_roundw
            case rel => exact ⟨k + 1, by omega, by go_num, HO2, hb.drew.trans (hb'.mono hb.size)⟩
            case measure => simp [intOf]; omega
          · skip
            obtain ⟨b2, off2, ha2, hd⟩ := hr.at rfl (k - 1) (by omega)
            simp only [Option.some.injEq, Addr.mk.injEq] at ha2
            obtain ⟨rfl, rfl, _⟩ := ha2
            have hd2 := hd.below hb
            obtain ⟨d0, d1, d2, d3⟩ := hd2
            obtain ⟨y, hy⟩ : ∃ y, y = nth es (k - 1) := ⟨_, rfl⟩
            rw [← hy] at d0 d1 d2 d3
            have HY : Hid (y = nth es (k - 1)) := hy
            clear hy hd
            obtain ⟨j, hj⟩ : ∃ j, j = k - 1 := ⟨k - 1, rfl⟩
            rw [← hj] at d0 d1 d2 d3
            have HJ : Hid (j = k - 1) := hj
            have hkj : (k : Int) - 1 = (j : Int) := by omega
            have hkp : decide (0 < k) = true := by simp; omega
            have hbn : b < wr.drew.heap.size := hlt2
            have hj1 : (j : Int) < (es.length : Int) := by omega
            have hj0 : (0 : Int) ≤ (j : Int) := by omega
            have hjn : j < es.length := by omega
            have hwr : IntKind.i64.wrap (j : Int) = (j : Int) := by rw [IntKind.wrap_i64]; omega
            have hk1 : (k : Int) < (es.length : Int) := by omega
            clear hj hk0
            go_wp2_with fail
            go_region_held3 (fun w' => w'.cell? ⟨b, off + k * 4, none⟩ = some (.string x.key) ∧ w'.cell? ⟨b, off + k * 4 + 1, none⟩ = some (.string x.val) ∧ w'.cell? ⟨b, off + k * 4 + 2, none⟩ = some (.int .i64 x.seq) ∧ w'.cell? ⟨b, off + k * 4 + 3, none⟩ = some (.bool x.gone) ∧
                w'.cell? ⟨b, off + j * 4, none⟩ = some (.string y.key) ∧ w'.cell? ⟨b, off + j * 4 + 1, none⟩ = some (.string y.val) ∧ w'.cell? ⟨b, off + j * 4 + 2, none⟩ = some (.int .i64 y.seq) ∧ w'.cell? ⟨b, off + j * 4 + 3, none⟩ = some (.bool y.gone)) (go_keep)
              (first
                | (go_at_call 61; refine (l3Entry_yes x _ hfk hok).mono ?_; rintro e w1 ⟨rfl, hb1⟩; have hcc1 : ∀ o, w1.cell? ⟨b, o, none⟩ = wr.cell? ⟨b, o, none⟩ := fun o => (bcell hb1).1 b o (by simpa using hlt2); have hz1 : b < w1.heap.size := by have := hb1.size; simp at this; omega)
                | (go_at_call 107; refine (l3Ahead_any y x _).mono ?_; rintro e w2 ⟨rfl, hb2⟩; have hcc2 : ∀ o, w2.cell? ⟨b, o, none⟩ = wr.cell? ⟨b, o, none⟩ := fun o => ((bcell hb2).1 b o hz1).trans (hcc1 o)))
            have bz := (hb.drew.trans (hb1.mono hb.size)).trans (hb2.mono (by have := hb.size; have := hb1.size; simp at this; omega))
            cases hah : ahd y x with
            | false =>
              have RES : Hid (okL es = false) := okL_no_at hlt (by unfold okAt; rw [← HX.out, ← HY.out, hok, hah]; simp; omega)
              go_wp2
              go_ret
              exact ⟨ret_bool RES.out.symm, bz⟩
            | true =>
              have HO2 : Hid (okTo es (k + 1) = true) := by
                show _ = _
                rw [okTo_succ, HO.out]; unfold okAt; rw [← HX.out, ← HY.out, hok, hah]; simp
              go_wp2
              go_roundw
              case rel => exact ⟨k + 1, by omega, by go_num, HO2, bz⟩
              case measure => simp [intOf]; omega
      · have hke : k = es.length := by omega
        subst hke
        go_wp2
        go_ret
        exact ⟨ret_bool (by simp [okL, HO.out]; omega), hb⟩
open Go.RowKit
def zeroW : Wri := ⟨⟨#[]⟩, ⟨#[]⟩, false⟩
def nthW (xs : List Wri) (i : Nat) : Wri := xs.getD i zeroW
theorem nthW_eq {xs : List Wri} {i : Nat} (h : i < xs.length) : nthW xs i = xs[i] := by simp [nthW, List.getD, List.getElem?_eq_getElem h]
theorem nthW_zero (a : Wri) (r : List Wri) : nthW (a :: r) 0 = a := by simp [nthW]
theorem nthW_succ (a : Wri) (r : List Wri) (i : Nat) : nthW (a :: r) (i + 1) = nthW r i := by simp [nthW, List.getD]
theorem Tryz.infoW54 : (Tryz.prog.info? 54).map (fun i => (i.zero, i.size, i.bytes)) = some (some (.agg #[.string ⟨#[]⟩, .string ⟨#[]⟩, .bool false]), 3, 40) := by kernel_rfl
def WC (e : Wri) : List Value := [.string e.key, .string e.val, .bool e.gone]
def WV (es : List Wri) : List Value := es.flatMap WC
theorem WV_length : ∀ es : List Wri, (WV es).length = es.length * 3
  | [] => rfl
  | a :: r => by
    have := WV_length r
    unfold WV at this ⊢
    rw [List.flatMap_cons, List.length_append, this, List.length_cons]
    simp [WC]; omega
theorem WV_append (a b : List Wri) : WV (a ++ b) = WV a ++ WV b := by simp [WV]
theorem WV_one (e : Wri) : WV [e] = WC e := by simp [WV]
theorem WV_cons (a : Wri) (r : List Wri) : WV (a :: r) = WC a ++ WV r := by simp [WV]
theorem WV_get : ∀ (es : List Wri) (i : Nat), i < es.length → ∀ j, j < 3 → (WV es)[i * 3 + j]? = (WC (nthW es i))[j]?
  | [], i, h, _, _ => by simp at h
  | a :: r, 0, _, j, hj => by
    rw [WV_cons, nthW_zero, Nat.zero_mul, Nat.zero_add, List.getElem?_append_left (by simp [WC]; exact hj)]
  | a :: r, i + 1, h, j, hj => by
    rw [WV_cons, nthW_succ, ← WV_get r i (by simpa using h) j hj, List.getElem?_append_right (by simp [WC]; omega)]
    congr 1
    simp [WC]; omega
theorem WV_oneCell (es : List Wri) : ∀ u ∈ WV es, u.oneCell' = true := by
  intro u hu
  simp only [WV, List.mem_flatMap] at hu
  obtain ⟨e, _, he⟩ := hu
  simp only [WC, List.mem_cons, List.not_mem_nil, or_false] at he
  rcases he with rfl | rfl | rfl <;> rfl
def WriAt (w : World) (b o : Nat) (e : Wri) : Prop :=
  w.cell? ⟨b, o, none⟩ = some (.string e.key) ∧ w.cell? ⟨b, o + 1, none⟩ = some (.string e.val) ∧ w.cell? ⟨b, o + 2, none⟩ = some (.bool e.gone)
def OwnW (w : World) (base : Nat) (v : Value) (es : List Wri) : Prop := w.ownsRow base 54 3 v es.length (WV es)
def RdW (w : World) (v : Value) (es : List Wri) : Prop :=
  ∃ a cap, v = .slice a es.length cap ∧ es.length ≤ cap ∧ cap ≤ maxLen ∧ (a = none → cap = 0) ∧
    (es = [] ∨ ∃ b off, a = some ⟨b, off, none⟩ ∧ ∀ i, i < es.length → WriAt w b (off + i * 3) (nthW es i))
theorem WriAt.lt {w : World} {b o : Nat} {e : Wri} (h : WriAt w b o e) : b < w.heap.size := World.block_lt_of_cell? w _ h.1
theorem WriAt.of_block {w w' : World} {b o : Nat} {e : Wri} (h : WriAt w b o e) (hb : w'.heap[b]? = w.heap[b]?) : WriAt w' b o e :=
  ⟨(World.cell?_of_block (a := ⟨b, o, none⟩) hb).trans h.1, (World.cell?_of_block (a := ⟨b, o + 1, none⟩) hb).trans h.2.1, (World.cell?_of_block (a := ⟨b, o + 2, none⟩) hb).trans h.2.2⟩
theorem WriAt.below {w w' : World} {b o : Nat} {e : Wri} (h : WriAt w b o e) (hb : Below w.heap.size w w') : WriAt w' b o e := h.of_block (hb.block b h.lt)
theorem ownW_cell {w : World} {base g cap n : Nat} {es : List Wri} (h : w.ownsRow base 54 3 (.slice (some ⟨g, 0, none⟩) n cap) n (WV es)) (hn : n = es.length) (i : Nat) (hi : i < n) : WriAt w g (i * 3) (nthW es i) := by
  subst hn
  have c : ∀ j, j < 3 → w.cell? ⟨g, i * 3 + j, none⟩ = (WC (nthW es i))[j]? := fun j hj => (h.cellAt (i * 3 + j) (by omega)).trans (WV_get es i hi j hj)
  exact ⟨c 0 (by omega), c 1 (by omega), c 2 (by omega)⟩
theorem OwnW.rd {w : World} {base : Nat} {v : Value} {es : List Wri} (h : OwnW w base v es) : RdW w v es := by
  have h' := h
  rcases h.2 with ⟨rfl, h0⟩ | ⟨g, cap, cur, rfl, hb, hg, hn, hc, hs, ht⟩
  · have : es = [] := List.length_eq_zero_iff.1 h0
    subst this
    exact ⟨none, 0, rfl, Nat.le_refl _, Nat.zero_le _, fun _ => rfl, .inl rfl⟩
  · refine ⟨some ⟨g, 0, none⟩, cap, rfl, hn, hc, (fun h => by cases h), .inr ⟨g, 0, rfl, fun i hi => ?_⟩⟩
    rw [Nat.zero_add]
    exact ownW_cell h' rfl i hi
theorem OwnW.below {w w' : World} {base : Nat} {v : Value} {es : List Wri} (h : OwnW w base v es) (hb : Below w.heap.size w w') : OwnW w' base v es := own_below h hb
theorem OwnW.drewN {w : World} {base : Nat} {v : Value} {es : List Wri} (h : OwnW w base v es) (q : Nat) : OwnW (w.drewN q) base v es := h
theorem OwnW.mono {w : World} {base base' : Nat} {v : Value} {es : List Wri} (h : OwnW w base v es) (hb : base' ≤ base) : OwnW w base' v es := by
  refine ⟨h.1, ?_⟩
  rcases h.2 with h2 | ⟨g, cap, cur, hv, hg, r⟩
  · exact .inl h2
  · exact .inr ⟨g, cap, cur, hv, Nat.le_trans hb hg, r⟩
theorem RdW.below {w w' : World} {v : Value} {es : List Wri} (h : RdW w v es) (hb : Below w.heap.size w w') : RdW w' v es := by
  obtain ⟨a, cap, hv, h1, h2, h0, h3⟩ := h
  refine ⟨a, cap, hv, h1, h2, h0, ?_⟩
  rcases h3 with h3 | ⟨b, off, ha, hc⟩
  · exact .inl h3
  · exact .inr ⟨b, off, ha, fun i hi => (hc i hi).below hb⟩
theorem RdW.drewN {w : World} {v : Value} {es : List Wri} (h : RdW w v es) (q : Nat) : RdW (w.drewN q) v es := h
theorem rdW_nil (w : World) : RdW w (.slice none 0 0) [] := ⟨none, 0, rfl, Nat.le_refl _, Nat.zero_le _, fun _ => rfl, .inl rfl⟩
theorem ownW_none (w : World) : OwnW (w.alloc (.cells #[] 54)) w.heap.size (.slice (some ⟨w.heap.size, 0, none⟩) 0 0) [] := World.ownsRow_lit w #[] 0 (Nat.le_refl _) (Nat.zero_le _) rfl
theorem ownW_more {w1 : World} {B : Nat} {v' : Value} {ys zs : List Wri} (h : w1.ownsRow B 54 3 v' (ys.length + zs.length) (WV ys ++ WV zs)) : OwnW w1 B v' (ys ++ zs) := by
  unfold OwnW
  rw [WV_append, List.length_append]
  exact h
theorem RdW.at {w : World} {a : Option Addr} {n cap : Nat} {es : List Wri} (h : RdW w (.slice a n cap) es) (hn : n = es.length) (i : Nat) (hi : i < es.length) : ∃ b off, a = some ⟨b, off, none⟩ ∧ WriAt w b (off + i * 3) (nthW es i) := by
  obtain ⟨a', cap', hv, _, _, _, h3⟩ := h
  simp only [Value.slice.injEq] at hv
  obtain ⟨rfl, _, _⟩ := hv
  rcases h3 with rfl | ⟨b, off, ha, hc⟩
  · simp at hi
  · exact ⟨b, off, ha, hc i hi⟩
theorem WV_nth {es : List Wri} {j : Nat} {u : Value} (h : (WV es)[j]? = some u) : j / 3 < es.length ∧ (WC (nthW es (j / 3)))[j % 3]? = some u := by
  have hj : j < (WV es).length := (List.getElem?_eq_some_iff.1 h).1
  rw [WV_length] at hj
  have h1 : j / 3 < es.length := by omega
  refine ⟨h1, ?_⟩
  have h2 := WV_get es (j / 3) h1 (j % 3) (by omega)
  rw [show j / 3 * 3 + j % 3 = j by omega] at h2
  rw [← h2]; exact h
theorem WriAt.cellAt {w : World} {b o : Nat} {e : Wri} (h : WriAt w b o e) {j : Nat} {u : Value} (hu : (WC e)[j]? = some u) : w.cell? ⟨b, o + j, none⟩ = some u := by
  obtain ⟨h0, h1, h2⟩ := h
  match j, hu with
  | 0, hu => simp [WC] at hu; subst hu; exact h0
  | 1, hu => simp [WC] at hu; subst hu; exact h1
  | 2, hu => simp [WC] at hu; subst hu; exact h2
theorem wrisAt_cells {w : World} {b off : Nat} {es : List Wri} (h : ∀ i, i < es.length → WriAt w b (off + i * 3) (nthW es i)) : ∀ j u, (WV es)[j]? = some u → w.cell? ((⟨b, off, none⟩ : Addr).add j) = some u := by
  intro j u hu
  obtain ⟨h1, h2⟩ := WV_nth hu
  have := (h _ h1).cellAt h2
  rw [Addr.add_lit]
  rw [show off + j / 3 * 3 + j % 3 = off + j by omega] at this
  exact this
end Go.Proofs.YtpbbahpndgigjaaGreatDoor
-- UNF WriAt
namespace Go.Proofs.YtpbbahpndgigjaaGreatDoor
open Go.RowKit
open Go.RowKit
def FitsW (x : Wri) : Prop := x.key.size ≤ 4503599627370496 ∧ x.val.size ≤ 4503599627370496
def batchOk (xs : List Wri) : Bool := decide (xs.length ≤ 20) && xs.all wriOk
def BoxW (w : World) (b : Nat) (x : Wri) : Prop := w.cell? ⟨b, 0, none⟩ = some (.string x.key) ∧ w.cell? ⟨b, 1, none⟩ = some (.string x.val) ∧ w.cell? ⟨b, 2, none⟩ = some (.bool x.gone)
theorem boxW_new (w : World) (x : Wri) (t : TypeId) : BoxW (w.alloc (.cells #[.string x.key, .string x.val, .bool x.gone] t)) w.heap.size x := by
  refine ⟨?_, ?_, ?_⟩ <;> simp [World.cell?_alloc_at]
theorem batch_more {xs : List Wri} {k : Nat} (hk : k < xs.length) (h : (xs.take k).all wriOk = true) (hx : wriOk (nthW xs k) = true) : (xs.take (k + 1)).all wriOk = true := by
  rw [List.take_succ_eq_append_getElem hk, List.all_append, h, ← nthW_eq hk]
  simp [hx]
theorem batch_not {xs : List Wri} {k : Nat} (hk : k < xs.length) (hx : wriOk (nthW xs k) = false) : xs.all wriOk = false := by
  rw [Bool.eq_false_iff]
  intro h
  rw [List.all_eq_true] at h
  have := h (nthW xs k) (by rw [nthW_eq hk]; exact List.getElem_mem hk)
  rw [hx] at this
  cases this
theorem l7Batch_any (v : Value) (xs : List Wri) (w : World) (hr : RdW w v xs) (hf : ∀ x ∈ xs, FitsW x) :
    Calls Tryz.prog 39 #[v] w fun e w' => e = .returned (.bool (batchOk xs)) ∧ Below w.heap.size w w' := by
  obtain ⟨a, cap, hv, hl, hm, _⟩ := id hr
  unfold maxLen at hm
  obtain ⟨n, hn⟩ : ∃ n, n = xs.length := ⟨_, rfl⟩
  rw [← hn] at hv hl
  have HN : Hid (n = xs.length) := hn
  have HF : Hid (∀ x ∈ xs, FitsW x) := hf
  subst hv
  clear hn hf
  by_cases hbig : 20 < n
  · have END : Hid (batchOk xs = false) := by unfold Hid batchOk; rw [decide_eq_false (by rw [← HN.out]; omega)]; rfl
    go_enter Tryz.func39, Tryz.ntmps39
    go_wp2
    go_ret
    exact ⟨by rw [END.out]; rfl, Below.refl _ _⟩
  · have HB : Hid (∀ b, xs.all wriOk = b → batchOk xs = b) := fun b h => by unfold batchOk; rw [decide_eq_true (by rw [← HN.out]; omega), h]; rfl
    go_enter Tryz.func39, Tryz.ntmps39
    go_wp2
    go_loopw [3] (fun i wr => ∃ k : Nat, k ≤ n ∧ i = .int .i64 k ∧ Hid ((xs.take k).all wriOk = true) ∧ Below w.heap.size w wr) (fun i _ => n - (intOf i).toNat)
    case atStart => exact ⟨0, Nat.zero_le _, rfl, rfl, Below.refl _ _⟩
    case round =>
      obtain ⟨k, hk, rfl, HA, hb⟩ := hrel
      by_cases hlt : k < n
      · have hkl : k < xs.length := by rw [← HN.out]; exact hlt
        have hkc : k < cap := by omega
        obtain ⟨b, off, rfl, hc⟩ := (hr.below hb).at HN.out k hkl
        have hfx := HF.out (nthW xs k) (by rw [nthW_eq hkl]; exact List.getElem_mem hkl)
        have HM : Hid (wriOk (nthW xs k) = true → (xs.take (k + 1)).all wriOk = true) := fun h => batch_more hkl HA.out h
        have HNO : Hid (wriOk (nthW xs k) = false → batchOk xs = false) := fun h => HB.out false (batch_not hkl h)
        generalize nthW xs k = x at hc hfx HM HNO
        obtain ⟨c0, c1, c2⟩ := hc
        have HE : Hid (∀ W, Calls Tryz.prog 61 #[.agg #[.string x.key, .string x.val, .int .i64 1, .bool x.gone]] W fun e w' => e = .returned (.bool (wriOk x)) ∧ Below W.heap.size W w') := fun W => l3Entry_any (wriE x 1) W ⟨hfx.1, hfx.2, by show (-9223372036854775808 : Int) ≤ 1; omega, by show (1 : Int) ≤ 9223372036854775807; omega⟩
        have hx1 := boxW_new wr x 54
        have bb := hb.alloc hb.size (.cells #[.string x.key, .string x.val, .bool x.gone] 54)
        obtain ⟨d0, d1, d2⟩ := id hx1
        clear hkl hfx
        go_wp2_with fail
        refine (HE.out _).mono ?_
        rintro e w1 ⟨rfl, hb1⟩
        have b1 := bb.trans (hb1.mono bb.size)
        clear hx1 d0 d1 d2 bb hb1 hb HA
        cases hwx : wriOk x with
        | false =>
          have END : Hid (batchOk xs = false) := HNO.out hwx
          clear HM HNO HE hwx
          go_wp2
          go_ret
          exact ⟨by rw [END.out]; rfl, b1⟩
        | true =>
          have HA2 : Hid ((xs.take (k + 1)).all wriOk = true) := HM.out hwx
          clear HM HNO HE hwx
          go_wp2
          go_roundw
          case rel => exact ⟨k + 1, by omega, by go_num, HA2, b1⟩
          case measure => simp [intOf]; omega
      · have hke : k = n := by omega
        have END : Hid (batchOk xs = true) := HB.out true (by have := HA.out; rwa [hke, HN.out, List.take_length] at this)
        clear hke HA
        go_wp2
        go_ret
        exact ⟨by rw [END.out]; rfl, hb⟩
theorem entryOf_any (x : Wri) (s : Int) (w : World) :
    Calls Tryz.prog 47 #[.agg #[.string x.key, .string x.val, .bool x.gone], .int .i64 s] w fun e w' => e = .returned (.agg #[.string x.key, .string x.val, .int .i64 s, .bool x.gone]) ∧ Below w.heap.size w w' := by
  go_enter Tryz.func47, Tryz.ntmps47
  go_wp2
  refine bodyPost_ret (v := .agg #[.string x.key, .string x.val, .int .i64 s, .bool x.gone]) (by simp [results, Tryz.results47, go_sem]) rfl ⟨rfl, ?_⟩
  exact below2 _ _ _
open Go.RowKit
def rdAcc (bs : List UInt8) : Nat → Nat → List ByteArray → Option (List ByteArray × Nat)
  | 0, p, acc => some (acc, p)
  | m + 1, p, acc => if (rdText (bs.drop p)).2 = 0 then none else rdAcc bs m (p + (rdText (bs.drop p)).2) (acc ++ [⟨(rdText (bs.drop p)).1.toArray⟩])
def rdAll (bs : List UInt8) : Option (List ByteArray × Nat) := if (rdNum bs).2 = 0 ∨ 200 < (rdNum bs).1 then none else rdAcc bs (rdNum bs).1 (rdNum bs).2 []
def fin (bs : List UInt8) : Option (List ByteArray × Nat) → List ByteArray × Bool
  | none => ([], false)
  | some r => if r.2 = bs.length then (r.1, true) else ([], false)
theorem rdText_drop (bs : List UInt8) (p : Nat) : (rdText (bs.drop p)).2 ≤ bs.length - p := by have := rdText_len (bs.drop p); rwa [List.length_drop] at this
theorem rdAcc_no (bs : List UInt8) (m p : Nat) (acc : List ByteArray) (h : (rdText (bs.drop p)).2 = 0) : rdAcc bs (m + 1) p acc = none := by rw [rdAcc, if_pos h]
theorem rdAcc_go (bs : List UInt8) (m p : Nat) (acc : List ByteArray) (h : (rdText (bs.drop p)).2 ≠ 0) : rdAcc bs (m + 1) p acc = rdAcc bs m (p + (rdText (bs.drop p)).2) (acc ++ [⟨(rdText (bs.drop p)).1.toArray⟩]) := by rw [rdAcc, if_neg h]
theorem rd_empty (w : World) (a : Option Addr) (cap : Nat) (h : cap ≤ maxLen) : Rd w (.slice a 0 cap) [] := ⟨a, cap, rfl, Nat.zero_le _, h, .inl rfl⟩
theorem rd_drop {w : World} {b off cap p : Nat} {bs : List UInt8} (hl : bs.length ≤ cap) (hm : cap ≤ maxLen) (hc : ∀ i (h : i < bs.length), w.cell? ⟨b, off + i, none⟩ = some (.int .u8 (bs[i].toNat : Int))) : Rd w (.slice (some ⟨b, off + p, none⟩) (bs.length - p) (cap - p)) (bs.drop p) := by
  refine ⟨some ⟨b, off + p, none⟩, cap - p, by rw [List.length_drop], by rw [List.length_drop]; omega, by omega, .inr ⟨b, off + p, rfl, fun i hi => ?_⟩⟩
  rw [List.length_drop] at hi
  have := hc (p + i) (by omega)
  rw [← Nat.add_assoc] at this
  rw [this]
  simp
theorem one_newS (w : World) (x : Value) (t : TypeId) : ∀ j u, [x][j]? = some u → (w.alloc (.cells #[x] t)).cell? ((⟨w.heap.size, 0, none⟩ : Addr).add j) = some u := by
  intro j u hj
  match j, hj with
  | 0, hj => simp at hj; subst hj; simp [Addr.add]
def ManyPost (w : World) (res : Option (List ByteArray × Nat)) (e : Ending) (w' : World) : Prop :=
  ∃ u, e = .returned (.tuple #[u, .int .i64 (((res.elim 0 Prod.snd : Nat)) : Int)]) ∧ OwnS w' w.heap.size u (res.elim [] Prod.fst) ∧ Below w.heap.size w w'
theorem manyPost_no {w wr : World} {B : Nat} {res : Option (List ByteArray × Nat)} {u : Value} (h : res = none) (ho : OwnS wr B u []) (hB : w.heap.size ≤ B) (hb : Below w.heap.size w wr) : ManyPost w res (.returned (.tuple #[u, .int .i64 0])) wr := by
  subst h
  exact ⟨u, rfl, ho.mono hB, hb⟩
theorem manyPost_yes {w wr : World} {res : Option (List ByteArray × Nat)} {u : Value} {ss : List ByteArray} {p : Nat} (h : res = some (ss, p)) (ho : OwnS wr w.heap.size u ss) (hb : Below w.heap.size w wr) : ManyPost w res (.returned (.tuple #[u, .int .i64 (p : Int)])) wr := by
  subst h
  exact ⟨u, rfl, ho, hb⟩
end Go.Proofs.YtpbbahpndgigjaaGreatDoor
