/- The contract of the model's l7Wrote: a batch into a tree in a box. The contract of the model's Wrote. The contracts of slices.Index and slices.Delete at numbers. From a plain walk to one inside a round of a range over a function: no function of the program is walked here. The contract of the program's iterator over a tree's tables. Plain facts on what the program's own walks over trees tell: no function of the program is walked here. The contracts of the program's snapsOk, isNewer, noneIsPast, noneIsTwice. The contract of the program's Packed: the bytes of right entries, nothing of others. -/
import Derived.Test.YtpbbahpndgigjaaGreatDoorG33
import Derived.Deep.RegionLaw
import Derived.Lib.SliceRun
import Derived.RangeFuncNested
import Derived.RangeFuncBound
import Derived.RangeFuncCalls
import Derived.RangeFuncLeaves
import Derived.RangeFuncBox
import Derived.Shelf.Abstract
import Derived.Shelf.RegionOpen
import Derived.OwnWalkIn
import Derived.TacticsInMore
import Derived.LoopNIn
import Derived.LoopIn
import Derived.Deep.RegionHeld3
import Derived.Lib.AppendZeros
namespace Go.Proofs.YtpbbahpndgigjaaGreatDoor
set_option maxHeartbeats 16000000
set_option maxRecDepth 100000
open Go.RowKit
def WrotePost (w : World) (b B : Nat) (vy vo vs : Value) (M : List Ent) (q : Int) (ok : Bool) (e : Ending) (w' : World) : Prop :=
  e = .returned (.bool ok) ∧ (∃ vm', BoxTr w' b vm' vy vo q vs ∧ OwnE w' B vm' M) ∧ Touch [b] w w'
theorem boxTr_rowne {w : World} {B b t s n : Nat} {vm vy vo vs v : Value} {q : Int} {xs : List Value} (h : BoxTr w b vm vy vo q vs) (ho : w.ownsRow B t s v n xs) (ht : t ≠ 49) : ∀ k, v.ownBlock = some k → b ≠ k := by
  intro k hk e
  subst e
  rcases ho.2 with ⟨hv, _⟩ | ⟨g, cap, cur, hv, _, hg, _⟩
  · rw [hv] at hk; cases hk
  · rw [hv] at hk
    obtain rfl : g = b := Option.some.inj hk
    unfold BoxTr at h
    rw [h] at hg
    injection hg with hg
    injection hg with _ h2
    exact ht h2.symm
theorem l7Wrote_any (T : Tre) (vm vy vo vs : Value) (b B : Nat) (v : Value) (xs : List Wri) (w : World) (hb : BoxTr w b vm vy vo T.seq vs) (hm : OwnE w B vm T.mem) (hB : B ≤ w.heap.size) (ht : TreeP T) (hr : RdW w v xs) (hrt : ∀ w', Touch [b] w w' → RdW w' v xs) (hf : ∀ x ∈ xs, FitsW x) :
    Calls Tryz.prog 85 #[.pointer (some ⟨b, 0, none⟩), v] w fun e w' => WrotePost w b B vy vo vs (if roomFor T xs = true then (putAll T xs).mem else T.mem) (if roomFor T xs = true then (putAll T xs).seq else T.seq) (roomFor T xs) e w' := by
  obtain ⟨M, hM⟩ : ∃ M, M = if roomFor T xs = true then (putAll T xs).mem else T.mem := ⟨_, rfl⟩
  obtain ⟨Q0, hQ0⟩ : ∃ Q0, Q0 = if roomFor T xs = true then (putAll T xs).seq else T.seq := ⟨_, rfl⟩
  obtain ⟨ok, hok⟩ : ∃ ok, ok = roomFor T xs := ⟨_, rfl⟩
  rw [← hM, ← hQ0, ← hok]
  have HM0 : Hid (M = if roomFor T xs = true then (putAll T xs).mem else T.mem) := hM
  have HQ0 : Hid (Q0 = if roomFor T xs = true then (putAll T xs).seq else T.seq) := hQ0
  have HOK : Hid (ok = roomFor T xs) := hok
  clear hM hQ0 hok
  have HBT : Hid (Calls Tryz.prog 39 #[v] w fun e w' => e = .returned (.bool (batchOk xs)) ∧ Below w.heap.size w w') := l7Batch_any v xs w hr hf
  obtain ⟨a, cap, hv, hl, hmx, _⟩ := id hr
  unfold maxLen at hmx
  obtain ⟨n, hn⟩ : ∃ n, n = xs.length := ⟨_, rfl⟩
  rw [← hn] at hv hl
  have HN : Hid (n = xs.length) := hn
  have HRT : Hid (∀ w', Touch [b] w w' → RdW w' v xs) := hrt
  have HTP : Hid (TreeP T) := ht
  have hq0 := ht.seq0
  have hq1 := ht.seq1
  have hml := okL_len ht.mem
  subst hv
  clear hn hf hrt hr
  obtain ⟨am, cm, hvm, hlm, hmm, -⟩ := id hm.rd
  unfold maxLen at hmm
  obtain ⟨mn, hmn⟩ : ∃ mn, mn = T.mem.length := ⟨_, rfl⟩
  rw [← hmn] at hvm hlm hml
  have HMN : Hid (mn = T.mem.length) := hmn
  clear hmn
  subst hvm
  obtain ⟨sq, hsq⟩ : ∃ sq, sq = T.seq := ⟨_, rfl⟩
  rw [← hsq] at hb hq0 hq1
  have HSQ : Hid (sq = T.seq) := hsq
  clear hsq
  have NOT : Hid (roomFor T xs = false → ∀ w', Below w.heap.size w w' → WrotePost w b B vy vo vs M Q0 ok (.returned (.bool false)) w') := fun h w' hw => by
    rw [HM0.out, HQ0.out, HOK.out, h]
    exact ⟨rfl, ⟨.slice am mn cm, by rw [if_neg (by simp), ← HSQ.out]; exact hb.on hw, by rw [if_neg (by simp)]; exact hm.below hw⟩, Touch.of_below hw⟩
  cases hbo : batchOk xs with
  | false =>
    have NO : Hid (roomFor T xs = false) := by unfold Hid roomFor; rw [hbo]; rfl
    rw [hbo] at HBT
    go_enter Tryz.func85, Tryz.ntmps85
    go_wp2_with fail
    refine HBT.out.mono ?_
    rintro e w1 ⟨rfl, hb1⟩
    have END := NOT.out NO.out w1 hb1
    have END2 : Hid (WrotePost _ _ _ _ _ _ _ _ _ _ _) := END
    clear END HBT hb1 NOT
    go_wp2
    go_ret
    exact END2.out
  | true =>
    have hn20 : n ≤ 20 := by
      unfold batchOk at hbo
      rw [Bool.and_eq_true, decide_eq_true_eq] at hbo
      have := HN.out
      omega
    have HALL : Hid (xs.all wriOk = true) := by unfold batchOk at hbo; rw [Bool.and_eq_true] at hbo; exact hbo.2
    rw [hbo] at HBT
    by_cases h1 : 1000000 < sq + (n : Int)
    · have NO : Hid (roomFor T xs = false) := by unfold Hid roomFor; rw [hbo, decide_eq_false (by rw [← HN.out, ← HSQ.out]; omega)]; rfl
      go_enter Tryz.func85, Tryz.ntmps85
      go_wp2_with fail
      refine HBT.out.mono ?_
      rintro e w1 ⟨rfl, hb1⟩
      have END2 : Hid (WrotePost _ _ _ _ _ _ _ _ _ _ _) := NOT.out NO.out w1 hb1
      obtain ⟨y0, y1, y2, y3, y4, -⟩ := (hb.on hb1).facts
      clear HBT hb1 NOT
      go_wp2
      go_ret
      exact END2.out
    by_cases h2 : 300 < mn + n
    · have NO : Hid (roomFor T xs = false) := by unfold Hid roomFor; rw [decide_eq_false (show ¬ (T.mem.length + xs.length ≤ 300) by rw [← HN.out, ← HMN.out]; omega), Bool.and_false]
      have h2' : (300 : Int) < (mn : Int) + (n : Int) := by omega
      go_enter Tryz.func85, Tryz.ntmps85
      go_wp2_with fail
      refine HBT.out.mono ?_
      rintro e w1 ⟨rfl, hb1⟩
      have END2 : Hid (WrotePost _ _ _ _ _ _ _ _ _ _ _) := NOT.out NO.out w1 hb1
      obtain ⟨y0, y1, y2, y3, y4, -⟩ := (hb.on hb1).facts
      clear HBT hb1 NOT
      go_wp2
      go_ret
      exact END2.out
    have YES : Hid (roomFor T xs = true) := by unfold Hid roomFor; rw [hbo, decide_eq_true (by rw [← HN.out, ← HSQ.out]; omega), decide_eq_true (by rw [← HN.out, ← HMN.out]; omega)]; rfl
    have h2' : ¬ (300 : Int) < (mn : Int) + (n : Int) := by omega
    have HM1 : Hid (M = (putAll T xs).mem) := by unfold Hid; rw [HM0.out, if_pos YES.out]
    have HQ1 : Hid (Q0 = (putAll T xs).seq) := by unfold Hid; rw [HQ0.out, if_pos YES.out]
    have HOK1 : Hid (ok = true) := by unfold Hid; rw [HOK.out, YES.out]
    clear NOT HM0 HQ0 HOK
    go_enter Tryz.func85, Tryz.ntmps85
    go_wp2_with fail
    refine HBT.out.mono ?_
    rintro e w1 ⟨rfl, hb1⟩
    have zb1 := hb.on hb1
    have hm1 := hm.below hb1
    have T1 : Touch [b] w w1 := Touch.of_below hb1
    obtain ⟨y0, y1, y2, y3, y4, -⟩ := zb1.facts
    clear HBT hb1
    go_wp2
    clear y0 y1 y2 y3 y4
    go_loopw [6] (fun i wr => ∃ (k : Nat) (vm' : Value) (q : Int), k ≤ n ∧ i = .int .i64 k ∧ Hid (BoxTr wr b vm' vy vo q vs) ∧ Hid (q = (putAll T (xs.take k)).seq) ∧ Hid (OwnE wr B vm' (putAll T (xs.take k)).mem) ∧ Hid (Touch [b] w wr)) (fun i _ => n - (intOf i).toNat)
    case atStart => exact ⟨0, _, sq, Nat.zero_le _, rfl, zb1, HSQ.out, hm1, T1⟩
    case round =>
      obtain ⟨k, vm', q, hk, rfl, ZB, HQ, HM, HT⟩ := hrel
      clear zb1 hm1 T1 hb hm
      by_cases hlt : k < n
      · have hkl : k < xs.length := by rw [← HN.out]; exact hlt
        have hkc : k < cap := by omega
        obtain ⟨c, off, rfl, hc⟩ := (HRT.out wr HT.out).at HN.out k hkl
        have HSN : Hid (putAll T (xs.take (k + 1)) = put1 (putAll T (xs.take k)) (nthW xs k)) := putAll_snoc T hkl
        have HLN : Hid ((putAll T (xs.take k)).mem.length ≤ 300) := by
          unfold Hid
          rw [putAll_len, List.length_take, ← HMN.out, ← HN.out]
          omega
        have hqb : 0 ≤ q ∧ q < 1000000 := by
          have := HQ.out
          rw [putAll_seq, List.length_take, ← HSQ.out, ← HN.out] at this
          omega
        obtain ⟨hq2, hq3⟩ := hqb
        generalize hU : putAll T (xs.take k) = U at HQ HM HSN HLN
        generalize nthW xs k = x at hc HSN
        clear hU hkl
        have hwl := hc.lt
        obtain ⟨c0, c1, c2⟩ := id hc
        obtain ⟨au, cu, hvu, -⟩ := id HM.out.rd
        obtain ⟨un, hun⟩ : ∃ un, un = U.mem.length := ⟨_, rfl⟩
        rw [← hun] at hvu
        subst hvu
        clear hun
        have hbl := ZB.out.lt
        -- THE WRITE'S BOX
        have hx1 := boxW_new wr x 54
        have bb := below1 wr (.cells #[.string x.key, .string x.val, .bool x.gone] 54)
        have zb2 := ZB.out.on bb
        have ss : (wr.setCell ⟨b, 3, none⟩ (.int .i64 (q + 1))).heap.size = wr.heap.size := by simp
        have zs := boxTr_set3 ZB.out (q + 1)
        have hms : OwnE (wr.setCell ⟨b, 3, none⟩ (.int .i64 (q + 1))) B (.slice au un cu) U.mem := row_set HM.out (boxTr_rowne ZB.out HM.out (by decide))
        have bs := below1 (wr.setCell ⟨b, 3, none⟩ (.int .i64 (q + 1))) (.cells #[.string x.key, .string x.val, .bool x.gone] 54)
        have zb3 := zs.on bs
        have hm3 := hms.below bs
        have T3 : Touch [b] w ((wr.setCell ⟨b, 3, none⟩ (.int .i64 (q + 1))).alloc (.cells #[.string x.key, .string x.val, .bool x.gone] 54)) := (HT.out.trans (Touch.set (by simp))).trans (Touch.of_below bs)
        have x3 : BoxW ((wr.setCell ⟨b, 3, none⟩ (.int .i64 (q + 1))).alloc (.cells #[.string x.key, .string x.val, .bool x.gone] 54)) wr.heap.size x := by rw [← ss]; exact boxW_new _ x _
        obtain ⟨y0, y1, y2, y3, y4, g0, g1, g2, g3, g4⟩ := zb2.facts
        have s3 : wr.heap.size < ((wr.setCell ⟨b, 3, none⟩ (.int .i64 (q + 1))).alloc (.cells #[.string x.key, .string x.val, .bool x.gone] 54)).heap.size := by simp
        have hBW : B ≤ ((wr.setCell ⟨b, 3, none⟩ (.int .i64 (q + 1))).alloc (.cells #[.string x.key, .string x.val, .bool x.gone] 54)).heap.size := by have := HT.out.size; simp; omega
        clear zs hms bs ss
        clear ZB HM HT hx1 bb zb2 hc
        go_wp2_with fail
        generalize (wr.setCell ⟨b, 3, none⟩ (.int .i64 (q + 1))).alloc (.cells #[.string x.key, .string x.val, .bool x.gone] 54) = W3 at zb3 hm3 T3 x3 s3 hBW ⊢
        clear y0 y1 y2 y3 y4 g0 g1 g2 g3 g4 c0 c1 c2
        obtain ⟨y0, y1, y2, y3, y4, g0, g1, g2, g3, g4⟩ := zb3.facts
        refine wp_region_noPanic ?_
        refine wp_region_held_drew (S := fun w' => w'.cell? ⟨b, 3, none⟩ = some (.int .i64 (q + 1)) ∧ w'.cell? ⟨wr.heap.size, 0, none⟩ = some (.string x.key) ∧ w'.cell? ⟨wr.heap.size, 1, none⟩ = some (.string x.val) ∧ w'.cell? ⟨wr.heap.size, 2, none⟩ = some (.bool x.gone)) (by kernel_rfl) ⟨y3, x3⟩ (fun hH => ?_)
        have hwb : wr.heap.size ≠ b := by omega
        have dd : Below W3.heap.size W3 W3.drew := (Below.refl _ W3).drew
        have zbV := zb3.on dd
        have hmV := hm3.below dd
        have TV := T3.trans (Touch.of_below dd)
        have xV : BoxW W3.drew wr.heap.size x := x3
        have sV : wr.heap.size < W3.drew.heap.size := s3
        have hBV : B ≤ W3.drew.heap.size := hBW
        clear zb3 hm3 T3 x3 s3 hBW dd y0 y1 y2 y3 y4 g0 g1 g2 g3 g4
        revert hH zbV hmV TV xV sV hBV
        generalize W3.drew = V
        intro hH zbV hmV TV xV sV hBV
        obtain ⟨y0, y1, y2, y3, y4, g0, g1, g2, g3, g4⟩ := zbV.facts
        refine tkA 0 50 hH ?_; try simp only [Act.put, sA, sZ, sS]
        refine tkA 1 51 hH ?_; try simp only [Act.put, sA, sZ, sS]
        refine tkA 2 52 hH ?_; try simp only [Act.put, sA, sZ, sS]
        refine tkA 3 53 hH ?_; try simp only [Act.put, sA, sZ, sS]
        refine tkA 5 55 hH ?_; try simp only [Act.put, sA, sZ, sS]
        refine tkA 6 56 hH ?_; try simp only [Act.put, sA, sZ, sS]
        refine tkA 7 57 hH ?_; try simp only [Act.put, sA, sZ, sS]
        refine tkA 8 58 hH ?_; try simp only [Act.put, sA, sZ, sS]
        refine tkA 9 59 hH ?_; try simp only [Act.put, sA, sZ, sS]
        refine tkA 10 60 hH ?_; try simp only [Act.put, sA, sZ, sS]
        refine tkA 11 61 hH ?_; try simp only [Act.put, sA, sZ, sS]
        refine tkA 12 62 hH ?_; try simp only [Act.put, sA, sZ, sS]
        refine tkA 13 63 hH ?_; try simp only [Act.put, sA, sZ, sS]
        refine tkA 14 64 hH ?_; try simp only [Act.put, sA, sZ, sS]
        refine tkA 15 65 hH ?_; try simp only [Act.put, sA, sZ, sS]
        refine wpAnyH_ready (rs := [4]) (by kernel_rfl) (by simp) ?_
        refine AllReadyH.cons rfl (fun K hK => ?_) AllReadyH.nil
        go_simp
        refine hK.out _ _ hH (fun hH2 => ?_)
        clear hK K hH
        try simp only [Act.put, sA, sZ, sS]
        refine wpAnyH_ready (rs := [16]) (by kernel_rfl) (by simp) ?_
        refine AllReadyH.cons rfl (fun K hK => ?_) AllReadyH.nil
        go_simp
        refine (l3Put_any (.slice au un cu) U.mem (wriE x (q + 1)) _ hmV.rd (by have := HLN.out; omega)).mono ?_
        rintro e w5 ⟨u, rfl, hu, hb5⟩
        have zb5 := zbV.on hb5
        have T5 := TV.trans (Touch.of_below hb5)
        have x5 : BoxW w5 wr.heap.size x := ⟨(hb5.cell (p := ⟨wr.heap.size, 0, none⟩) sV).trans xV.1, (hb5.cell (p := ⟨wr.heap.size, 1, none⟩) sV).trans xV.2.1, (hb5.cell (p := ⟨wr.heap.size, 2, none⟩) sV).trans xV.2.2⟩
        have hu5 : OwnE w5 B u (insE U.mem (wriE x (q + 1))) := OwnE.mono hu hBV
        obtain ⟨av, cv, hvv, -⟩ := id hu.rd
        generalize (insE U.mem (wriE x (q + 1))).length = vn at hvv
        subst hvv
        obtain ⟨k0, k1, k2, k3, k4, l0, l1, l2, l3, l4⟩ := zb5.facts
        refine hK.out _ _ ⟨k3, x5⟩ (fun hH3 => ?_)
        clear hK K hH2 zbV hmV TV xV hu hb5 y0 y1 y2 y3 y4 g0 g1 g2 g3 g4
        try simp only [Act.put, sA, sZ, sS]
        refine tkA 17 67 hH3 ?_; try simp only [Act.put, sA, sZ, sS]
        refine tkA 18 68 hH3 ?_; try simp only [Act.put, sA, sZ, sS]
        have zb6 := boxTr_set0 zb5 (.slice av vn cv)
        have hm6 : OwnE (w5.setCell ⟨b, 0, none⟩ (.slice av vn cv)) B (.slice av vn cv) (insE U.mem (wriE x (q + 1))) := row_set hu5 (boxTr_rowne zb5 hu5 (by decide))
        have T6 : Touch [b] w (w5.setCell ⟨b, 0, none⟩ (.slice av vn cv)) := T5.trans (Touch.set (by simp))
        have x6 : BoxW (w5.setCell ⟨b, 0, none⟩ (.slice av vn cv)) wr.heap.size x := ⟨(World.cell?_setCell_other _ _ _ _ (by intro e; have e2 := congrArg Addr.block e; simp only at e2; omega)).trans x5.1, (World.cell?_setCell_other _ _ _ _ (by intro e; have e2 := congrArg Addr.block e; simp only at e2; omega)).trans x5.2.1, (World.cell?_setCell_other _ _ _ _ (by intro e; have e2 := congrArg Addr.block e; simp only at e2; omega)).trans x5.2.2⟩
        have hM6 : Hid (OwnE (w5.setCell ⟨b, 0, none⟩ (.slice av vn cv)) B (.slice av vn cv) (putAll T (xs.take (k + 1))).mem) := by
          unfold Hid
          rw [HSN.out]
          show OwnE _ B _ (insE U.mem (wriE x (U.seq + 1)))
          rw [← HQ.out]
          exact hm6
        have hQ6 : Hid (q + 1 = (putAll T (xs.take (k + 1))).seq) := by unfold Hid; rw [HSN.out, HQ.out]; rfl
        obtain ⟨-, -, -, p3, -⟩ := zb6.facts
        refine wpAnyH_ready (rs := [19]) (by kernel_rfl) (by simp) ?_
        refine AllReadyH.cons rfl (fun K hK => ?_) AllReadyH.nil
        go_simp
        refine hK.out _ _ ⟨p3, x6⟩ (fun hH4 => ?_)
        clear hK K hH3 hH4 x6 p3 k0 k1 k2 k3 k4 l0 l1 l2 l3 l4 x5 hm6 zb5 T5 hu5
        refine wpAnyH_done (by kernel_rfl) ?_ _
        refine NoPanic.normal ?_
        generalize w5.setCell ⟨b, 0, none⟩ (.slice av vn cv) = W6 at zb6 T6 hM6 ⊢
        go_wp2
        go_roundw
        case rel => exact ⟨k + 1, _, q + 1, by omega, by go_num, zb6, hQ6, hM6, T6⟩
        case measure => simp [intOf]; omega
      · have hke : k = n := by omega
        have END : Hid (WrotePost w b B vy vo vs M Q0 ok (.returned (.bool true)) wr) := by
          have e : xs.take k = xs := by rw [hke, HN.out, List.take_length]
          have h1 := HQ.out
          have h2 := HM.out
          rw [e] at h1 h2
          rw [HM1.out, HQ1.out, HOK1.out, ← h1]
          exact ⟨rfl, ⟨_, ZB.out, h2⟩, HT.out⟩
        clear hke ZB HQ HM HT
        go_wp2
        go_ret
        exact END.out
open Go.RowKit
open Go.RowKit
open Go.RowKit
open Go.RowKit Go.Shelf
attribute [local go_sem] Oper.semAt_some
def KpT (n₀ : Nat) (W W' : World) : Prop := Below n₀ W W' ∧ ∀ (k : Nat) (cs : Array Value) (fz : Nat × Nat), W.heap[k]? = some (.cells cs 46 fz) → W'.heap[k]? = W.heap[k]?
theorem KpT.trans {n₀ : Nat} {A B C : World} (h : KpT n₀ A B) (k : KpT n₀ B C) : KpT n₀ A C :=
  ⟨h.1.trans k.1, fun i cs fz hi => (k.2 i cs fz ((h.2 i cs fz hi).trans hi)).trans (h.2 i cs fz hi)⟩
theorem KpT.putObj {n₀ : Nat} {w : World} (hB : n₀ ≤ w.heap.size) (W : World) (l : Nat) (o o' : Obj) (hl : w.heap.size ≤ l) (ho : W.heap[l]? = some o) (hc : o.isCells = false) (hw : o.isWalk = false) : KpT n₀ W (W.putObj l o') := by
  refine ⟨belowK_b hB W l o o' hl ho hc hw, fun k cs fz hk => World.putObj_heap_other (fun e => ?_)⟩
  subst e; rw [ho] at hk; cases hk; cases hc
theorem KpT.alloc {n₀ : Nat} {W : World} (h : n₀ ≤ W.heap.size) (o : Obj) : KpT n₀ W (W.alloc o) :=
  ⟨(Below.refl n₀ W).alloc h o, fun k _ _ hk => Below.heap_alloc W o k (Array.getElem?_eq_some_iff.1 hk).1⟩
open Go.RowKit
open Go.RowKit
end Go.Proofs.YtpbbahpndgigjaaGreatDoor
