/- Plain facts on tables: rising numbers, the marks of keys, blocks of eight entries, what a right table is; no function of the program is walked here. The contract of the model's EntriesOk. The contracts of the model's Seen and Shown. -/
import Derived.Test.YtbefmbjlogkmbaaGreatG03
import Derived.Deep.RegionHeld3
namespace Go.Proofs.YtbefmbjlogkmbaaGreat
set_option maxHeartbeats 16000000
set_option maxRecDepth 100000
def atI (ns : List Int) (n : Int) : Nat := (ns.takeWhile (fun a => decide (a < n))).length
def putI (ns : List Int) (n : Int) : List Int := if ns[atI ns n]? = some n then ns else ns.take (atI ns n) ++ n :: ns.drop (atI ns n)
theorem atI_le (ns : List Int) (n : Int) : atI ns n ≤ ns.length := (List.takeWhile_sublist _).length_le
theorem atI_lo : ∀ (ns : List Int) (n : Int) (i : Nat) (h : i < ns.length), i < atI ns n → ns[i] < n
  | [], _, _, h, _ => by simp at h
  | a :: r, n, i, h, hi => by
    unfold atI at hi
    rw [List.takeWhile_cons] at hi
    split at hi
    · rename_i ha
      cases i with
      | zero => simpa using ha
      | succ i => rw [List.getElem_cons_succ]; exact atI_lo r n i (by simpa using h) (by simpa [atI] using hi)
    · simp at hi
theorem atI_stop : ∀ (ns : List Int) (n : Int) (h : atI ns n < ns.length), ¬ ns[atI ns n] < n
  | [], _, h => by simp at h
  | a :: r, n, h => by
    by_cases ha : a < n
    · have e : atI (a :: r) n = atI r n + 1 := by unfold atI; rw [List.takeWhile_cons, if_pos (by simpa using ha)]; rfl
      have h2 : atI r n < r.length := by rw [e, List.length_cons] at h; omega
      have := atI_stop r n h2
      simp only [e, List.getElem_cons_succ]
      exact this
    · have e : atI (a :: r) n = 0 := by unfold atI; rw [List.takeWhile_cons, if_neg (by simpa using ha)]; rfl
      simp only [e, List.getElem_cons_zero]
      exact ha
theorem atI_of (ns : List Int) (n : Int) (k : Nat) (hk : k ≤ ns.length) (h1 : ∀ i (h : i < ns.length), i < k → ns[i] < n) (h2 : ∀ (h : k < ns.length), ¬ ns[k] < n) : atI ns n = k := by
  have h3 := atI_le ns n
  rcases Nat.lt_trichotomy (atI ns n) k with h | h | h
  · exact absurd (h1 _ (by omega) h) (atI_stop ns n (by omega))
  · exact h
  · exact absurd (atI_lo ns n k (by omega) h) (h2 (by omega))
theorem putI_mem (ns : List Int) (n x : Int) : x ∈ putI ns n ↔ x = n ∨ x ∈ ns := by
  unfold putI
  split
  · rename_i h
    have hn : n ∈ ns := List.mem_of_getElem? h
    exact ⟨.inr, fun h => by rcases h with rfl | h; exact hn; exact h⟩
  · rw [List.mem_append, List.mem_cons]
    constructor
    · rintro (h | h | h)
      · exact .inr (List.mem_of_mem_take h)
      · exact .inl h
      · exact .inr (List.mem_of_mem_drop h)
    · rintro (h | h)
      · exact .inr (.inl h)
      · rw [← List.take_append_drop (atI ns n) ns] at h
        rcases List.mem_append.1 h with h | h
        · exact .inl h
        · exact .inr (.inr h)
theorem putI_len (ns : List Int) (n : Int) : (putI ns n).length ≤ ns.length + 1 := by
  have := atI_le ns n
  unfold putI
  split
  · omega
  · simp; omega
def mk1 (key : ByteArray) : Int := ((dig 1 key.data.toList % 256 : Nat) : Int)
def mk2 (key : ByteArray) : Int := ((dig 1 (key.data.toList ++ [42]) % 256 : Nat) : Int)
def marksL (key : ByteArray) : List Int := putI [mk1 key] (mk2 key)
theorem mk1_in (key : ByteArray) : 0 ≤ mk1 key ∧ mk1 key < 256 := by unfold mk1; omega
theorem mk2_in (key : ByteArray) : 0 ≤ mk2 key ∧ mk2 key < 256 := by unfold mk2; omega
theorem marksL_mem (key : ByteArray) (x : Int) : x ∈ marksL key ↔ x = mk2 key ∨ x = mk1 key := by unfold marksL; rw [putI_mem]; simp
theorem marksL_len (key : ByteArray) : (marksL key).length ≤ 2 := putI_len _ _
def bitsTo (ns : List Int) (ms : List Int) : List Int := ms.foldl putI ns
def bitsL (es : List Ent) : List Int := es.foldl (fun b e => bitsTo b (marksL e.key)) []
theorem bitsTo_mem (ms : List Int) : ∀ (ns : List Int) (x : Int), x ∈ bitsTo ns ms ↔ x ∈ ns ∨ x ∈ ms := by
  unfold bitsTo
  induction ms with
  | nil => intro ns x; simp
  | cons m r ih => intro ns x; rw [List.foldl_cons, ih, putI_mem, List.mem_cons]; grind
theorem bitsF_mem (es : List Ent) : ∀ (ns : List Int) (x : Int), x ∈ es.foldl (fun b e => bitsTo b (marksL e.key)) ns ↔ x ∈ ns ∨ ∃ e ∈ es, x ∈ marksL e.key := by
  induction es with
  | nil => intro ns x; simp
  | cons e r ih =>
    intro ns x
    rw [List.foldl_cons, ih, bitsTo_mem]
    constructor
    · rintro ((h | h) | ⟨y, hy, h⟩)
      · exact .inl h
      · exact .inr ⟨e, List.mem_cons_self, h⟩
      · exact .inr ⟨y, List.mem_cons_of_mem _ hy, h⟩
    · rintro (h | ⟨y, hy, h⟩)
      · exact .inl (.inl h)
      · rcases List.mem_cons.1 hy with rfl | hy
        · exact .inl (.inr h)
        · exact .inr ⟨y, hy, h⟩
theorem bitsL_mem (es : List Ent) (x : Int) : x ∈ bitsL es ↔ ∃ e ∈ es, x ∈ marksL e.key := by unfold bitsL; rw [bitsF_mem]; simp
theorem bitsTo_len (ms : List Int) : ∀ ns : List Int, (bitsTo ns ms).length ≤ ns.length + ms.length := by
  unfold bitsTo
  induction ms with
  | nil => intro ns; simp
  | cons m r ih => intro ns; rw [List.foldl_cons]; have := ih (putI ns m); have := putI_len ns m; rw [List.length_cons]; omega
theorem bitsF_len (es : List Ent) : ∀ ns : List Int, (es.foldl (fun b e => bitsTo b (marksL e.key)) ns).length ≤ ns.length + 2 * es.length := by
  induction es with
  | nil => intro ns; simp
  | cons e r ih =>
    intro ns
    rw [List.foldl_cons, List.length_cons]
    have h1 := ih (bitsTo ns (marksL e.key))
    have h2 := bitsTo_len (marksL e.key) ns
    have h3 := marksL_len e.key
    omega
theorem bitsL_len (es : List Ent) : (bitsL es).length ≤ 2 * es.length := by have := bitsF_len es []; simpa [bitsL] using this
structure Tbl where
  first : ByteArray
  last : ByteArray
  bits : List Int
  blocks : List ByteArray
deriving DecidableEq
def zeroT : Tbl := ⟨⟨#[]⟩, ⟨#[]⟩, [], []⟩
def allF : List ByteArray → List Ent → Option (List Ent)
  | [], acc => some acc
  | b :: r, acc => if (unpI b.data.toList).2 = true ∧ 1 ≤ (unpI b.data.toList).1.length ∧ (unpI b.data.toList).1.length ≤ 8 then allF r (acc ++ (unpI b.data.toList).1) else none
def allL (T : Tbl) : List Ent × Bool := if T.blocks.length < 1 ∨ 40 < T.blocks.length then ([], false) else match allF T.blocks [] with
  | none => ([], false)
  | some es => (es, okL es)
def tableOk (T : Tbl) : Bool := (allL T).2 && decide (T.first = (nth (allL T).1 0).key) && decide (T.last = (nth (allL T).1 ((allL T).1.length - 1)).key) && decide (T.bits = bitsL (allL T).1)
def chunk (es : List Ent) (i : Nat) : List Ent := (es.drop i).take 8
def blkF (es : List Ent) : Nat → Nat → List ByteArray
  | 0, _ => []
  | n + 1, i => ⟨(packA (chunk es i)).toArray⟩ :: blkF es n (i + 8)
def blksL (es : List Ent) : List ByteArray := blkF es ((es.length + 7) / 8) 0
def builtT (es : List Ent) : Tbl := ⟨(nth es 0).key, (nth es (es.length - 1)).key, bitsL es, blksL es⟩
def builtOk (es : List Ent) : Bool := okL es && !decide (es.length = 0)
def builtL (es : List Ent) : Tbl := if builtOk es = true then builtT es else zeroT
def entriesL (T : Tbl) : List Ent := if tableOk T = true then (allL T).1 else []
theorem okL_sub {es fs : List Ent} (h : okL es = true) (hs : fs.Sublist es) : okL fs = true := by
  rw [okL_iff] at h ⊢
  exact ⟨Nat.le_trans hs.length_le h.1, fun e he => h.2.1 e (hs.subset he), h.2.2.sublist hs⟩
theorem chunk_ok {es : List Ent} (h : okL es = true) (i : Nat) : okL (chunk es i) = true := okL_sub h ((List.take_sublist _ _).trans (List.drop_sublist _ _))
theorem blkF_len (es : List Ent) : ∀ n i, (blkF es n i).length = n
  | 0, _ => rfl
  | n + 1, i => by rw [blkF, List.length_cons, blkF_len es n]
theorem tableOk_parts {T : Tbl} (h : tableOk T = true) : okL (entriesL T) = true ∧ entriesL T ≠ [] ∧ T.first = (nth (entriesL T) 0).key ∧ T.last = (nth (entriesL T) ((entriesL T).length - 1)).key ∧ T.bits = bitsL (entriesL T) := by
  have he : entriesL T = (allL T).1 := by unfold entriesL; rw [if_pos h]
  unfold tableOk at h
  simp only [Bool.and_eq_true, decide_eq_true_eq] at h
  obtain ⟨⟨⟨h1, h2⟩, h3⟩, h4⟩ := h
  rw [he]
  refine ⟨?_, ?_, h2, h3, h4⟩
  · unfold allL at h1 ⊢
    split at h1
    · cases h1
    · rename_i hb
      rw [if_neg hb]
      split at h1
      · cases h1
      · exact h1
  · intro hn
    unfold allL at h1 hn
    split at h1
    · cases h1
    · rename_i hb
      rw [if_neg hb] at hn
      split at h1
      · cases h1
      · rename_i es hes
        rw [hes] at hn
        simp only at hn
        subst hn
        obtain ⟨b, r, hbr⟩ : ∃ b r, T.blocks = b :: r := by
          cases hT : T.blocks with
          | nil => rw [hT] at hb; simp at hb
          | cons b r => exact ⟨b, r, rfl⟩
        rw [hbr, allF] at hes
        split at hes
        · rename_i hq
          have := allF_grow r _ _ hes
          rw [List.nil_append] at this
          simp at this
          rw [this] at hq
          simp at hq
        · cases hes
where
  allF_grow : ∀ (bs : List ByteArray) (acc es : List Ent), allF bs acc = some es → ∃ t, es = acc ++ t
    | [], acc, es, h => by rw [allF] at h; cases h; exact ⟨[], by simp⟩
    | b :: r, acc, es, h => by
      rw [allF] at h
      split at h
      · obtain ⟨t, ht⟩ := allF_grow r _ _ h; exact ⟨_, by rw [ht, List.append_assoc]⟩
      · cases h
open Go.RowKit
theorem tkA (i d : Nat) {P : Program} {ops : Array Oper} {Q : Exit → Act → World → Prop} {md : Region.Mode} {S : World → Prop} {oi : Oper} {v : Value} {fuel : Nat} {listed : Array Bool} {a : Act} {w : World} (hS : S w)
    (h : wpAnyH P md ops (NoPanic Q) S fuel (listed.setIfInBounds i true) (a.put (some d) v) w) (hi : ops[i]? = some oi := by rfl) (hd : oi.dst = some d := by rfl)
    (hs : Region.noSelect ops = true := by kernel_rfl) (hf : Region.free md ops listed i = true := by kernel_rfl) (hr : (Region.ready md ops listed).contains i = true := by kernel_rfl) (hw : Region.wanted oi (yielded ops a.tmps) = true := by kernel_rfl)
    (hy : ∀ w, S w → (execOp a.eval oi).run P w = .ok (.value v) w := by intro w hS; (try dsimp only [EntAt, Nat.zero_add] at hS); go_simp; (try with_reducible rfl)) : wpAnyH P md ops (NoPanic Q) S (fuel + 1) listed a w :=
  takeH hi hd hs hf hr (fun _ _ _ h => h) (Or.inl ⟨hw, hy⟩) hS h
theorem l3Entry_yes (a : Ent) (w : World) (hf : Fits a) (h : okE a = true) :
    Calls Tryz.prog 97 #[.agg #[.string a.key, .string a.val, .int .i64 a.seq, .bool a.gone]] w fun e w' => e = .returned (.bool true) ∧ Below w.heap.size w w' := by
  have := l3Entry_any a w hf; rwa [h] at this
theorem l3Entry_no (a : Ent) (w : World) (hf : Fits a) (h : okE a = false) :
    Calls Tryz.prog 97 #[.agg #[.string a.key, .string a.val, .int .i64 a.seq, .bool a.gone]] w fun e w' => e = .returned (.bool false) ∧ Below w.heap.size w w' := by
  have := l3Entry_any a w hf; rwa [h] at this
theorem specEntriesOk_any (v : Value) (es : List Ent) (w : World) (hr : RdE w v es) (hf : ∀ e ∈ es, Fits e) :
    Calls Tryz.prog 95 #[v] w fun e w' => e = .returned (.bool (okL es)) ∧ Below w.heap.size w w' := by
  obtain ⟨a, cap, hv, hl, hm, _⟩ := id hr
  unfold maxLen at hm
  subst hv
  have HF : Hid (∀ e ∈ es, Fits e) := hf
  clear hf
  by_cases hbig : 300 < es.length
  · go_enter Tryz.func95, Tryz.ntmps95
    go_wp2
    go_ret
    exact ⟨ret_bool (by simp [okL]; omega), Below.refl _ _⟩
  · go_enter Tryz.func95, Tryz.ntmps95
    go_wp2
    go_loopw [3] (fun i wr => ∃ k : Nat, k ≤ es.length ∧ i = .int .i64 k ∧ Hid (okTo es k = true) ∧ Below w.heap.size w wr) (fun i _ => es.length - (intOf i).toNat)
    case atStart => exact ⟨0, Nat.zero_le _, rfl, rfl, Below.refl _ _⟩
    case round =>
      obtain ⟨k, hk, rfl, HO, hb⟩ := hrel
      by_cases hlt : k < es.length
      · obtain ⟨b, off, rfl, hc⟩ := hr.at rfl k hlt
        have hc2 := hc.below hb
        have hlt2 := hc2.lt
        obtain ⟨c0, c1, c2, c3⟩ := hc2
        have hfk := HF.out _ (List.getElem_mem hlt)
        rw [← nth_eq hlt] at hfk
        obtain ⟨x, hx⟩ : ∃ x, x = nth es k := ⟨_, rfl⟩
        rw [← hx] at c0 c1 c2 c3 hfk
        have HX : Hid (x = nth es k) := hx
        clear hx hc
        cases hok : okE x with
        | false =>
          have RES : Hid (okL es = false) := okL_no_at hlt (by unfold okAt; rw [← HX.out, hok]; rfl)
          go_wp2_with fail
          refine wp_region_noPanic ?_
          refine wp_region_held_drew (S := fun w' => EntAt w' b (off + k * 4) x) (by kernel_rfl) ⟨c0, c1, c2, c3⟩ (fun hH => ?_)
          refine tkA 0 13 hH ?_; try simp only [Act.put, sA, sZ, sS]
          refine tkA 1 14 hH ?_; try simp only [Act.put, sA, sZ, sS]
          refine tkA 2 15 hH ?_; try simp only [Act.put, sA, sZ, sS]
          refine tkA 3 16 hH ?_; try simp only [Act.put, sA, sZ, sS]
          refine wpAnyH_ready (rs := [4]) (by kernel_rfl) (by simp) ?_
          refine AllReadyH.cons rfl (fun K hK => ?_) AllReadyH.nil
          go_simp
          refine (l3Entry_no x _ hfk hok).mono ?_
          rintro e w' ⟨rfl, hb'⟩
          refine hK.out _ _ (hH.below hb') (fun hA => ?_)
          clear hK K
          try simp only [Act.put, sA, sZ, sS]
          refine tkA 5 18 hA ?_; try simp only [Act.put, sA, sZ, sS]
          refine tkA 6 19 hA ?_; try simp only [Act.put, sA, sZ, sS]
          refine tkS 7 20 hA ?_; try simp only [Act.put, sA, sZ, sS]
          refine tkS 8 21 hA ?_; try simp only [Act.put, sA, sZ, sS]
          refine tkS 9 22 hA ?_; try simp only [Act.put, sA, sZ, sS]
          refine tkS 10 23 hA ?_; try simp only [Act.put, sA, sZ, sS]
          refine tkS 11 24 hA ?_; try simp only [Act.put, sA, sZ, sS]
          refine tkS 12 25 hA ?_; try simp only [Act.put, sA, sZ, sS]
          refine tkS 13 26 hA ?_; try simp only [Act.put, sA, sZ, sS]
          refine tkS 14 27 hA ?_; try simp only [Act.put, sA, sZ, sS]
          refine tkS 15 28 hA ?_; try simp only [Act.put, sA, sZ, sS]
          refine tkS 16 29 hA ?_; try simp only [Act.put, sA, sZ, sS]
          refine tkS 17 30 hA ?_; try simp only [Act.put, sA, sZ, sS]
          refine tkS 18 31 hA ?_; try simp only [Act.put, sA, sZ, sS]
          refine tkS 19 32 hA ?_; try simp only [Act.put, sA, sZ, sS]
          refine tkS 20 33 hA ?_; try simp only [Act.put, sA, sZ, sS]
          refine tkS 21 34 hA ?_; try simp only [Act.put, sA, sZ, sS]
          refine tkA 22 35 hA ?_; try simp only [Act.put, sA, sZ, sS]
          refine wpAnyH_done (by kernel_rfl) ?_ _
          refine NoPanic.normal ?_
          go_wp2
          go_ret
          exact ⟨ret_bool RES.out.symm, hb.drew.trans (hb'.mono hb.size)⟩
        | true =>
          by_cases hk0 : k = 0
          · skip
            have HO2 : Hid (okTo es (k + 1) = true) := by
              show _ = _
              rw [okTo_succ, HO.out]; unfold okAt; rw [← HX.out, hok]; simp [hk0]
            have hkn : decide (0 < k) = false := by simpa using hk0
            clear hk0
            go_wp2_with fail
            refine wp_region_noPanic ?_
            refine wp_region_held_drew (S := fun w' => EntAt w' b (off + k * 4) x) (by kernel_rfl) ⟨c0, c1, c2, c3⟩ (fun hH => ?_)
            refine tkA 0 13 hH ?_; try simp only [Act.put, sA, sZ, sS]
            refine tkA 1 14 hH ?_; try simp only [Act.put, sA, sZ, sS]
            refine tkA 2 15 hH ?_; try simp only [Act.put, sA, sZ, sS]
            refine tkA 3 16 hH ?_; try simp only [Act.put, sA, sZ, sS]
            refine wpAnyH_ready (rs := [4]) (by kernel_rfl) (by simp) ?_
            refine AllReadyH.cons rfl (fun K hK => ?_) AllReadyH.nil
            go_simp
            refine (l3Entry_yes x _ hfk hok).mono ?_
            rintro e w' ⟨rfl, hb'⟩
            refine hK.out _ _ (hH.below hb') (fun hA => ?_)
            clear hK K
            try simp only [Act.put, sA, sZ, sS]
            refine tkA 5 18 hA ?_; try simp only [Act.put, sA, sZ, sS]
            refine tkA 6 19 hA ?_; try simp only [Act.put, sA, sZ, sS]
            refine tkA 7 20 hA ?_; try simp only [Act.put, sA, sZ, sS]
            refine tkA 8 21 hA ?_; try simp only [Act.put, sA, sZ, sS]
            refine tkA 9 22 hA ?_; try simp only [Act.put, sA, sZ, sS]
            refine tkS 10 23 hA ?_; try simp only [Act.put, sA, sZ, sS]
            refine tkS 11 24 hA ?_; try simp only [Act.put, sA, sZ, sS]
            refine tkS 12 25 hA ?_; try simp only [Act.put, sA, sZ, sS]
            refine tkS 13 26 hA ?_; try simp only [Act.put, sA, sZ, sS]
            refine tkS 14 27 hA ?_; try simp only [Act.put, sA, sZ, sS]
            refine tkS 15 28 hA ?_; try simp only [Act.put, sA, sZ, sS]
            refine tkS 16 29 hA ?_; try simp only [Act.put, sA, sZ, sS]
            refine tkS 17 30 hA ?_; try simp only [Act.put, sA, sZ, sS]
            refine tkS 18 31 hA ?_; try simp only [Act.put, sA, sZ, sS]
            refine tkS 19 32 hA ?_; try simp only [Act.put, sA, sZ, sS]
            refine tkS 20 33 hA ?_; try simp only [Act.put, sA, sZ, sS]
            refine tkA 21 34 hA ?_; try simp only [Act.put, sA, sZ, sS]
            refine tkA 22 35 hA ?_; try simp only [Act.put, sA, sZ, sS]
            refine wpAnyH_done (by kernel_rfl) ?_ _
            refine NoPanic.normal ?_
            go_wp2
            go_roundw
            case rel => exact ⟨k + 1, by omega, by go_num, HO2, hb.drew.trans (hb'.mono hb.size)⟩
            case measure => simp [intOf]; omega
          · skip
            obtain ⟨b2, off2, ha2, hd⟩ := hr.at rfl (k - 1) (by omega)
            simp only [Option.some.injEq, Addr.mk.injEq] at ha2
            obtain ⟨rfl, rfl, _⟩ := ha2
            have hd2 := hd.below hb
            obtain ⟨d0, d1, d2, d3⟩ := hd2
            obtain ⟨y, hy⟩ : ∃ y, y = nth es (k - 1) := ⟨_, rfl⟩
            rw [← hy] at d0 d1 d2 d3
            have HY : Hid (y = nth es (k - 1)) := hy
            clear hy hd
            obtain ⟨j, hj⟩ : ∃ j, j = k - 1 := ⟨k - 1, rfl⟩
            rw [← hj] at d0 d1 d2 d3
            have HJ : Hid (j = k - 1) := hj
            have hkj : (k : Int) - 1 = (j : Int) := by omega
            have hkp : decide (0 < k) = true := by simp; omega
            have hbn : b < wr.drew.heap.size := hlt2
            have hj1 : (j : Int) < (es.length : Int) := by omega
            have hj0 : (0 : Int) ≤ (j : Int) := by omega
            have hjn : j < es.length := by omega
            have hwr : IntKind.i64.wrap (j : Int) = (j : Int) := by rw [IntKind.wrap_i64]; omega
            have hk1 : (k : Int) < (es.length : Int) := by omega
            clear hj hk0
            go_wp2_with fail
            go_region_held3 (fun w' => w'.cell? ⟨b, off + k * 4, none⟩ = some (.string x.key) ∧ w'.cell? ⟨b, off + k * 4 + 1, none⟩ = some (.string x.val) ∧ w'.cell? ⟨b, off + k * 4 + 2, none⟩ = some (.int .i64 x.seq) ∧ w'.cell? ⟨b, off + k * 4 + 3, none⟩ = some (.bool x.gone) ∧
                w'.cell? ⟨b, off + j * 4, none⟩ = some (.string y.key) ∧ w'.cell? ⟨b, off + j * 4 + 1, none⟩ = some (.string y.val) ∧ w'.cell? ⟨b, off + j * 4 + 2, none⟩ = some (.int .i64 y.seq) ∧ w'.cell? ⟨b, off + j * 4 + 3, none⟩ = some (.bool y.gone)) (go_keep)
              (first
                | (go_at_call 97; refine (l3Entry_yes x _ hfk hok).mono ?_; rintro e w1 ⟨rfl, hb1⟩; have hcc1 : ∀ o, w1.cell? ⟨b, o, none⟩ = wr.cell? ⟨b, o, none⟩ := fun o => (bcell hb1).1 b o (by simpa using hlt2); have hz1 : b < w1.heap.size := by have := hb1.size; simp at this; omega)
                | (go_at_call 98; refine (l3Ahead_any y x _).mono ?_; rintro e w2 ⟨rfl, hb2⟩; have hcc2 : ∀ o, w2.cell? ⟨b, o, none⟩ = wr.cell? ⟨b, o, none⟩ := fun o => ((bcell hb2).1 b o hz1).trans (hcc1 o)))
            have bz := (hb.drew.trans (hb1.mono hb.size)).trans (hb2.mono (by have := hb.size; have := hb1.size; simp at this; omega))
            cases hah : ahd y x with
            | false =>
              have RES : Hid (okL es = false) := okL_no_at hlt (by unfold okAt; rw [← HX.out, ← HY.out, hok, hah]; simp; omega)
              go_wp2
              go_ret
              exact ⟨ret_bool RES.out.symm, bz⟩
            | true =>
              have HO2 : Hid (okTo es (k + 1) = true) := by
                show _ = _
                rw [okTo_succ, HO.out]; unfold okAt; rw [← HX.out, ← HY.out, hok, hah]; simp
              go_wp2
              go_roundw
              case rel => exact ⟨k + 1, by omega, by go_num, HO2, bz⟩
              case measure => simp [intOf]; omega
      · have hke : k = es.length := by omega
        subst hke
        go_wp2
        go_ret
        exact ⟨ret_bool (by simp [okL, HO.out]; omega), hb⟩
open Go.RowKit
def SeenPost (w : World) (o : Option Ent) (e : Ending) (w' : World) : Prop :=
  e = .returned (.tuple #[.agg #[.string (o.getD zeroE).key, .string (o.getD zeroE).val, .int .i64 (o.getD zeroE).seq, .bool (o.getD zeroE).gone], .bool o.isSome]) ∧ Below w.heap.size w w'
theorem seenPost_some {w w' : World} {o : Option Ent} {x : Ent} (ho : o = some x) (hb : Below w.heap.size w w') : SeenPost w o (.returned (.tuple #[.agg #[.string x.key, .string x.val, .int .i64 x.seq, .bool x.gone], .bool true])) w' := by
  subst ho; exact ⟨rfl, hb⟩
theorem seenPost_none {w w' : World} {o : Option Ent} (ho : o = none) (hb : Below w.heap.size w w') : SeenPost w o (.returned (.tuple #[.agg #[.string ⟨#[]⟩, .string ⟨#[]⟩, .int .i64 0, .bool false], .bool false])) w' := by
  subst ho; exact ⟨rfl, hb⟩
theorem specOk_yes (v : Value) (es : List Ent) (w : World) (hr : RdE w v es) (hf : ∀ e ∈ es, Fits e) (h : okL es = true) :
    Calls Tryz.prog 95 #[v] w fun e w' => e = .returned (.bool true) ∧ Below w.heap.size w w' := by
  have := specEntriesOk_any v es w hr hf; rwa [h] at this
theorem specOk_no (v : Value) (es : List Ent) (w : World) (hr : RdE w v es) (hf : ∀ e ∈ es, Fits e) (h : okL es = false) :
    Calls Tryz.prog 95 #[v] w fun e w' => e = .returned (.bool false) ∧ Below w.heap.size w w' := by
  have := specEntriesOk_any v es w hr hf; rwa [h] at this
def BoxAt (w : World) (b : Nat) (x : Ent) : Prop := EntAt w b 0 x ∧ ∀ o, w.frozen? ⟨b, o, none⟩ = false
theorem BoxAt.below {w w' : World} {b : Nat} {x : Ent} (h : BoxAt w b x) (hb : Below w.heap.size w w') : BoxAt w' b x :=
  ⟨h.1.below hb, fun o => ((bcell hb).2 b o h.1.lt).trans (h.2 o)⟩
theorem box_zero (w : World) (t : TypeId) : BoxAt (w.alloc (.cells #[.string ⟨#[]⟩, .string ⟨#[]⟩, .int .i64 0, .bool false] t)) w.heap.size zeroE :=
  ⟨⟨by simp [zeroE], by simp [zeroE], by simp [zeroE], by simp [zeroE]⟩, fun o => by simp⟩
theorem BoxAt.facts {w : World} {b : Nat} {x : Ent} (h : BoxAt w b x) : w.cell? ⟨b, 0, none⟩ = some (.string x.key) ∧ w.cell? ⟨b, 1, none⟩ = some (.string x.val) ∧ w.cell? ⟨b, 2, none⟩ = some (.int .i64 x.seq) ∧ w.cell? ⟨b, 3, none⟩ = some (.bool x.gone) ∧
    w.frozen? ⟨b, 0, none⟩ = false ∧ w.frozen? ⟨b, 1, none⟩ = false ∧ w.frozen? ⟨b, 2, none⟩ = false ∧ w.frozen? ⟨b, 3, none⟩ = false := by
  obtain ⟨⟨h0, h1, h2, h3⟩, hf⟩ := h
  simp only [Nat.zero_add] at h1 h2 h3
  exact ⟨h0, h1, h2, h3, hf 0, hf 1, hf 2, hf 3⟩
theorem below4 {B : Nat} {w0 w : World} (h : Below B w0 w) {g : Nat} (hg : B ≤ g) (a b c d : Value) (i j k l : Nat) : Below B w0 ((((w.setCell ⟨g, i, none⟩ a).setCell ⟨g, j, none⟩ b).setCell ⟨g, k, none⟩ c).setCell ⟨g, l, none⟩ d) :=
  (((h.setCell (by exact hg) _).setCell (by exact hg) _).setCell (by exact hg) _).setCell (by exact hg) _
end Go.Proofs.YtbefmbjlogkmbaaGreat
