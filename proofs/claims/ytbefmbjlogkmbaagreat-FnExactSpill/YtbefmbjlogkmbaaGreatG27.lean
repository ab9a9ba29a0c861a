/- The contracts of container/heap's Push and Pop at this heap, and of the program's add and take. The contract of the program's take. -/
import Derived.Test.YtbefmbjlogkmbaaGreatG26
namespace Go.Proofs.YtbefmbjlogkmbaaGreat
set_option maxHeartbeats 16000000
set_option maxRecDepth 100000
open Go.RowKit
theorem hlen_any (a : Option Addr) (n c : Nat) (w : World) : Calls Tryz.prog 121 #[.slice a n c] w fun e w' => e = .returned (.int .i64 n) ∧ w' = w := by
  go_enter Tryz.func121, Tryz.ntmps121
  go_wp2
  go_ret
  exact ⟨rfl, rfl⟩
theorem Hp.len_any {w0 w : World} {sb : Nat} {v : Value} {hs : List Src} (h : Hp w0 w sb v hs) (n : Nat) (hn : hs.length = n) : Calls Tryz.prog 121 #[v] w fun e w' => e = .returned (.int .i64 n) ∧ w' = w := by
  obtain ⟨a, cap, hv, -, -⟩ := ownH_len h.own
  subst hn
  rw [hv]
  exact hlen_any a _ cap w
theorem up_at (w0 w : World) (sb : Nat) (v : Value) (hs : List Src) (j : Nat) (x : Int) (hx : x = (j : Int)) (h : Hp w0 w sb v hs) (hj : j < hs.length) (hu : upOk hs j) :
    Calls Tryz.prog 160 #[.iface 141 (.pointer (some ⟨sb, 0, none⟩)), .int .i64 x] w fun e w' => UpPost w0 w sb v hs e w' := by
  subst hx; exact up_any w0 w sb v hs j h hj hu
def HeapPost (w0 w : World) (sb : Nat) (v : Value) (hs : List Src) (u : Value) (e : Ending) (w' : World) : Prop :=
  ∃ v' hs', e = .returned u ∧ Hp w0 w' sb v' hs' ∧ hs'.Perm hs ∧ HP hs' hs'.length ∧ Hop w v sb w' v'
theorem heapPush_any (w0 w : World) (sb : Nat) (v : Value) (hs : List Src) (s : Src) (h : Hp w0 w sb v hs) (hh : HP hs hs.length) (hr : RdE w0 s.v s.es) (hne : s.es ≠ []) (hf : hs.length < 20) :
    Calls Tryz.prog 143 #[.iface 141 (.pointer (some ⟨sb, 0, none⟩)), .iface 167 (.agg #[s.v, .int .i64 s.no])] w fun e w' => HeapPost w0 w sb v (hs ++ [s]) (.tuple #[]) e w' := by
  have hq := m_Push w sb
  have HC : Hid (Calls _ _ _ _ _) := push_any w0 w sb v hs s h hr hne hf
  have HU : Hid (upOk (hs ++ [s]) hs.length) := up_push s hh
  obtain ⟨n, hn⟩ : ∃ n, hs.length = n := ⟨_, rfl⟩
  rw [hn] at HU hf
  have hl2 : (hs ++ [s]).length = n + 1 := by rw [List.length_append, hn]; rfl
  have HL2 : Hid ((hs ++ [s]).length = n + 1) := hl2
  clear h hh hr hne hn hl2
  generalize hs ++ [s] = hs2 at HC HU HL2
  go_enter Tryz.func143, Tryz.ntmps143
  go_wp2_with fail
  refine HC.out.mono ?_
  rintro e w1 ⟨v1, rfl, h1, hop1⟩
  have hq1 := m_Len w1 sb v1 h1.cell
  clear HC hq
  go_wp2_with fail
  refine (h1.len_any (n + 1) HL2.out).mono ?_
  rintro e w2 ⟨rfl, hw2⟩
  obtain rfl := hw2.symm
  clear hq1
  go_wp2_with fail
  refine (up_at w0 _ sb v1 hs2 n _ ?e1 h1 (by rw [HL2.out]; omega) HU.out).mono ?_
  case e1 => omega
  rintro e w3 ⟨hs3, rfl, h3, hp3, hh3, hop3⟩
  have HE : Hid (HeapPost w0 w sb v hs2 (.tuple #[]) (.returned (.tuple #[])) w3) := ⟨v1, hs3, rfl, h3, hp3, hh3, hop1.trans hop3⟩
  clear h1 h3 hp3 hh3 hop1 hop3
  go_wp2
  go_end0
  exact HE.out
theorem heapPop_any (w0 w : World) (sb : Nat) (v : Value) (hs : List Src) (h : Hp w0 w sb v hs) (hh : HP hs hs.length) (h0 : 0 < hs.length) :
    Calls Tryz.prog 144 #[.iface 141 (.pointer (some ⟨sb, 0, none⟩))] w fun e w' =>
      ∃ hs1, hs.Perm (sN hs 0 :: hs1) ∧ HeapPost w0 w sb v hs1 (.iface 167 (.agg #[(sN hs 0).v, .int .i64 (sN hs 0).no])) e w' := by
  obtain ⟨n, hn⟩ : ∃ n, hs.length = n + 1 := ⟨hs.length - 1, by omega⟩
  have hq := m_Len w sb v h.cell
  have HD : Hid (dnOk (swapS hs 0 n) 0 n) := dn_root hn hh
  have HSW : Hid (∀ k, sN (swapS hs 0 n) k = if k = n then sN hs 0 else if k = 0 then sN hs n else sN hs k) := fun k => sN_swap h0 (by omega)
  have HSP : Hid ((swapS hs 0 n).Perm hs) := swapS_perm h0 (by omega)
  have hn20 : n ≤ 20 := by have := h.few; omega
  have HN : Hid (hs.length = n + 1) := hn
  clear hh h0 hn
  go_enter Tryz.func144, Tryz.ntmps144
  go_wp2_with fail
  refine (h.len_any (n + 1) HN.out).mono ?_
  rintro e w1 ⟨rfl, hw1⟩
  obtain rfl := hw1.symm
  clear hq
  have hq1 := m_Swap w sb v h.cell
  go_wp2_with fail
  refine (swapH_at w0 _ sb v hs 0 n _ _ ?e1 ?e2 h (by rw [HN.out]; omega) (by rw [HN.out]; omega)).mono ?_
  case e1 => rfl
  case e2 => omega
  rintro e w2 ⟨rfl, h2, hop2⟩
  clear hq1 h
  obtain ⟨hs2, hhs2⟩ : ∃ hs2, hs2 = swapS hs 0 n := ⟨_, rfl⟩
  rw [← hhs2] at h2 HD HSW HSP
  clear hhs2
  go_wp2_with fail
  refine (down_any w0 _ sb v hs2 n _ ?e3 h2 (by rw [HSP.out.length_eq, HN.out]; omega) HD.out).mono ?_
  case e3 => omega
  rintro e w3 ⟨hs3, b3, rfl, h3, hp3, ht3, hh3, hop3⟩
  have hop4 := hop2.trans hop3
  have hl3 : hs3.length = n + 1 := by rw [hp3.length_eq, HSP.out.length_eq, HN.out]
  have HLAST : Hid (sN hs3 n = sN hs 0) := by unfold Hid; rw [ht3 n (Nat.le_refl _), HSW.out n, if_pos rfl]
  have HPERM : Hid (hs.Perm (sN hs 0 :: hs3.take n)) := by
    unfold Hid
    have e1 : hs3 = hs3.take n ++ [sN hs3 n] := by
      have := List.take_succ_eq_append_getElem (l := hs3) (i := n) (by omega)
      rw [← sN_eq (by omega), List.take_of_length_le (by omega)] at this
      exact this
    have e2 : hs3.Perm (sN hs3 n :: hs3.take n) := by
      conv => lhs; rw [e1]
      exact List.perm_append_comm
    rw [HLAST.out] at e2
    exact (HSP.out.symm.trans hp3.symm).trans e2
  have HHP : Hid (HP (hs3.take n) (hs3.take n).length) := HP_take (by omega) hh3
  have HC : Hid (Calls _ _ _ _ _) := pop_any w0 w3 sb v hs3 n h3 hl3
  have hq3 := m_Pop w3 sb
  rw [HLAST.out] at HC
  clear h2 h3 hp3 ht3 hh3 hop2 hop3 hl3 HD HSW HSP
  generalize hs3.take n = hs4 at HPERM HHP HC
  go_wp2_with fail
  refine HC.out.mono ?_
  rintro e w5 ⟨v5, rfl, h5, hop5⟩
  have HE : Hid (HeapPost w0 w sb v hs4 (.iface 167 (.agg #[(sN hs 0).v, .int .i64 (sN hs 0).no])) (.returned (.iface 167 (.agg #[(sN hs 0).v, .int .i64 (sN hs 0).no]))) w5) := ⟨v5, hs4, rfl, h5, List.Perm.refl _, HHP.out, hop4.trans hop5⟩
  clear h5 hop5 hop4 HC hq3
  go_wp2
  go_ret
  exact ⟨hs4, HPERM.out, HE.out⟩
theorem add_any (w0 w : World) (sb : Nat) (v : Value) (hs : List Src) (u : Value) (l : List Ent) (k : Nat) (x : Int) (hx : x = (k : Int)) (h : Hp w0 w sb v hs) (hh : HP hs hs.length) (hr : RdE w0 u l) (hf : hs.length < 20) :
    Calls Tryz.prog 120 #[.pointer (some ⟨sb, 0, none⟩), u, .int .i64 x] w fun e w' => HeapPost w0 w sb v (rest hs u l k) (.tuple #[]) e w' := by
  subst hx
  obtain ⟨a, cap, hu, h1, h2, -⟩ := id hr
  obtain ⟨n, hn⟩ : ∃ n, n = l.length := ⟨_, rfl⟩
  rw [← hn] at hu h1
  unfold maxLen at h2
  by_cases h0 : n = 0
  · have HE : Hid (HeapPost w0 w sb v (rest hs u l k) (.tuple #[]) (.returned (.tuple #[])) w) := by
      unfold Hid rest
      rw [if_pos (by rw [← hn]; exact h0)]
      exact ⟨v, hs, rfl, h, List.Perm.refl _, hh, Hop.refl _ _ _⟩
    subst hu
    subst h0
    clear h hh hr hf hn
    go_enter Tryz.func120, Tryz.ntmps120
    go_wp2
    go_end0
    exact HE.out
  · have HR : Hid (rest hs u l k = hs ++ [⟨u, l, k⟩]) := by unfold Hid rest; rw [if_neg (by rw [← hn]; exact h0)]
    have HC : Hid (Calls _ _ _ _ _) := heapPush_any w0 w sb v hs ⟨u, l, k⟩ h hh hr (fun e => h0 (by have e' : l = [] := e; rw [hn, e']; rfl)) hf
    rw [HR.out]
    have hpos : 0 < n := by omega
    simp only at HC
    generalize hs ++ [(⟨u, l, k⟩ : Src)] = hs2 at HC
    subst hu
    clear HR h hh hr hf hn h0
    go_enter Tryz.func120, Tryz.ntmps120
    go_wp2_with fail
    refine HC.out.mono ?_
    rintro e w1 ⟨v1, hs1, rfl, r⟩
    have HE : Hid (HeapPost w0 w sb v hs2 (.tuple #[]) (.returned (.tuple #[])) w1) := ⟨v1, hs1, rfl, r⟩
    clear r HC
    go_wp2
    go_end0
    exact HE.out
open Go.RowKit
theorem rest_perm {a b : List Src} (h : a.Perm b) (v : Value) (r : List Ent) (no : Nat) : (rest a v r no).Perm (rest b v r no) := by
  unfold rest
  split
  · exact h
  · exact h.append_right _
theorem Hp.row_lt {w0 w : World} {sb : Nat} {v : Value} {hs : List Src} (h : Hp w0 w sb v hs) : ∀ k, v.ownBlock = some k → k < w.heap.size := fun k hk => (World.ownsRow.lt h.own k hk).2
theorem boxKept {w w' : World} {b : Nat} {x : Ent} (h : BoxAt w b x) (hb : w'.heap[b]? = w.heap[b]?) : BoxAt w' b x :=
  ⟨h.1.of_block hb, fun o => by have := h.2 o; simp only [World.frozen?] at this ⊢; rw [hb]; exact this⟩
theorem Hp.set {w0 w : World} {sb : Nat} {v : Value} {hs : List Src} (h : Hp w0 w sb v hs) {b : Nat} (o : Nat) (u : Value) (hb : w0.heap.size ≤ b) (h1 : b ≠ sb) (h2 : v.ownBlock ≠ some b) : Hp w0 (w.setCell ⟨b, o, none⟩ u) sb v hs :=
  ⟨h.bel.setCell hb _, h.ge, (heap_setCell_other w ⟨b, o, none⟩ sb u (fun e => h1 (by simpa using e.symm))).trans h.box, ownH_kept h.own (fun k hk => heap_setCell_other w ⟨b, o, none⟩ k u (fun e => h2 (hk.trans (congrArg some (show k = b by simpa using e))))), h.ne, h.rd, h.few⟩
theorem Hop.set {w w1 : World} {v v1 : Value} {sb : Nat} (h : Hop w v sb w1 v1) {b : Nat} (o : Nat) (u : Value) (hb : w.heap.size ≤ b) : Hop w v sb (w1.setCell ⟨b, o, none⟩ u) v1 :=
  ⟨by simpa using h.size, fun k hk hs hv => (heap_setCell_other w1 ⟨b, o, none⟩ k u (fun e => by simp at e; omega)).trans (h.block k hk hs hv), h.row⟩
theorem entAt_putsM {w : World} {b : Nat} {y : Ent} (h : EntAt w b 0 y) (x : Ent) : EntAt ((((w.setCell ⟨b, 0, none⟩ (.string x.key)).setCell ⟨b, 1, none⟩ (.string x.val)).setCell ⟨b, 2, none⟩ (.int .i64 x.seq)).setCell ⟨b, 3, none⟩ (.bool x.gone)) b 0 x := by
  obtain ⟨z0, z1, z2, z3⟩ := h
  rw [Nat.zero_add] at z1 z2 z3
  refine ⟨?_, ?_, ?_, ?_⟩
  · rw [World.cell?_setCell_other _ _ _ _ (by simp), World.cell?_setCell_other _ _ _ _ (by simp), World.cell?_setCell_other _ _ _ _ (by simp), World.cell?_setCell_same _ _ _ z0]
  · rw [Nat.zero_add, World.cell?_setCell_other _ _ _ _ (by simp), World.cell?_setCell_other _ _ _ _ (by simp)]
    exact World.cell?_setCell_same _ _ _ (by rw [World.cell?_setCell_other _ _ _ _ (by simp)]; exact z1)
  · rw [Nat.zero_add, World.cell?_setCell_other _ _ _ _ (by simp)]
    exact World.cell?_setCell_same _ _ _ (by rw [World.cell?_setCell_other _ _ _ _ (by simp), World.cell?_setCell_other _ _ _ _ (by simp)]; exact z2)
  · rw [Nat.zero_add]
    exact World.cell?_setCell_same _ _ _ (by rw [World.cell?_setCell_other _ _ _ _ (by simp), World.cell?_setCell_other _ _ _ _ (by simp), World.cell?_setCell_other _ _ _ _ (by simp)]; exact z3)
def TakePost (w0 w : World) (sb : Nat) (v : Value) (hs : List Src) (x : Ent) (r : List Ent) (e : Ending) (w' : World) : Prop :=
  ∃ (hs1 hs' : List Src) (vt v' : Value), e = .returned (.agg #[.string x.key, .string x.val, .int .i64 x.seq, .bool x.gone]) ∧ hs.Perm (sN hs 0 :: hs1) ∧ hs'.Perm (rest hs1 vt r (sN hs 0).no) ∧ Hp w0 w' sb v' hs' ∧ HP hs' hs'.length ∧ Hop w v sb w' v'
theorem take_any (w0 w : World) (sb : Nat) (v : Value) (hs : List Src) (x : Ent) (r : List Ent) (h : Hp w0 w sb v hs) (hh : HP hs hs.length) (h0 : 0 < hs.length) (hx : (sN hs 0).es = x :: r) :
    Calls Tryz.prog 122 #[.pointer (some ⟨sb, 0, none⟩)] w fun e w' => TakePost w0 w sb v hs x r e w' := by
  have b0 := below1 w (.cells #[.string ⟨#[]⟩, .string ⟨#[]⟩, .int .i64 0, .bool false] 89)
  have hz := box_zero w 89
  have hz0 := h.below b0
  have hslt := h.lt
  have hrlt := h.row_lt
  have hs0 : (w.alloc (.cells #[.string ⟨#[]⟩, .string ⟨#[]⟩, .int .i64 0, .bool false] 89)).heap.size = w.heap.size + 1 := by simp
  have hrd := (h.rd _ (sN_mem h0)).1
  rw [hx] at hrd
  obtain ⟨bx, ox, n, cap, hsv, hn, hnc, hcm, hxa⟩ := rdE_hd hrd
  rw [hsv] at hrd
  have HC : Hid (Calls _ _ _ _ _) := heapPop_any w0 _ sb v hs hz0 hh h0
  rw [hsv] at HC
  obtain ⟨no, hno⟩ : ∃ no, no = (sN hs 0).no := ⟨_, rfl⟩
  have HTP : Hid (∀ e w', TakePost w0 w sb v hs x r e w' ↔ ∃ (hs1 hs' : List Src) (vt v' : Value), e = .returned (.agg #[.string x.key, .string x.val, .int .i64 x.seq, .bool x.gone]) ∧ hs.Perm (sN hs 0 :: hs1) ∧ hs'.Perm (rest hs1 vt r no) ∧ Hp w0 w' sb v' hs' ∧ HP hs' hs'.length ∧ Hop w v sb w' v') := fun e w' => by rw [hno]; exact Iff.rfl
  rw [← hno] at HC
  have hop0 : Hop w v sb _ v := Hop.below b0
  have hta := fun W => run_assert_src W (.agg #[.slice (some ⟨bx, ox, none⟩) (n + 1) cap, .int .i64 no])
  have HFEW : Hid (hs.length ≤ 20) := h.few
  have HNR : Hid (n = r.length) := hn
  unfold maxLen at hcm
  clear hh h0 hx hsv hno hn
  go_enter Tryz.func122, Tryz.ntmps122
  go_wp2_with fail
  generalize hWz : w.alloc (.cells #[.string ⟨#[]⟩, .string ⟨#[]⟩, .int .i64 0, .bool false] 89) = Wz at HC hz hz0 hop0 hs0 b0 ⊢
  refine HC.out.mono ?_
  rintro e w1 ⟨hs1, hp1, v1, hs2, rfl, h1, hp2, hh2, hop1⟩
  have hzb := boxKept hz (hop1.block w.heap.size (by omega) (by omega) (fun e => by have := hrlt _ e; omega))
  have hv1 : ∀ k, v1.ownBlock = some k → k ≠ w.heap.size := fun k hk => by
    rcases hop1.row k hk with e | e
    · have := hrlt _ e; omega
    · omega
  have hsz1 : w.heap.size < w1.heap.size := by have := hop1.size; omega
  have b2 := below1 w1 (.cells #[.slice (some ⟨bx, ox, none⟩) (n + 1) cap, .int .i64 no] 167)
  have b2d : Below w1.heap.size w1 (w1.alloc (.cells #[.slice (some ⟨bx, ox, none⟩) (n + 1) cap, .int .i64 no] 167)).drew := b2.drew
  have h2d := h1.below b2d
  have hzd := hzb.below b2d
  have hsrc : SrcAt (w1.alloc (.cells #[.slice (some ⟨bx, ox, none⟩) (n + 1) cap, .int .i64 no] 167)) w1.heap.size 0 ⟨.slice (some ⟨bx, ox, none⟩) (n + 1) cap, [], no⟩ := src_new w1 ⟨.slice (some ⟨bx, ox, none⟩) (n + 1) cap, [], no⟩ _
  have hfew : hs2.length < 20 := by
    have e1 := hp1.length_eq
    have e2 := hp2.length_eq
    have := HFEW.out
    simp at e1; omega
  have HBW : Hid (w0.heap.size ≤ w.heap.size) := h.bel.size
  clear hz hz0 hzb b2 HC h b0 hs0 hWz
  by_cases hc1 : cap = 1
  · skip
    subst hc1
    obtain rfl : n = 0 := by omega
    have hcut := rdE_tl1 hrd HNR.out
    go_wp2_with fail
    refine wp_region_noPanic ?_
    refine wp_region_held_drew (S := fun W => SrcAt W w1.heap.size 0 ⟨.slice (some ⟨bx, ox, none⟩) (0 + 1) 1, [], no⟩) (by kernel_rfl) hsrc (fun hH => ?_)
    refine takeH (i := 0) (d := 8) (v := ?_) rfl rfl (by kernel_rfl) (by kernel_rfl) (by kernel_rfl) (fun _ _ _ h => h) (Or.inl ⟨by kernel_rfl, ?_⟩) hH ?_
    rotate_left 1
    · intro w hS; (try dsimp only [EntAt, SrcAt, Nat.zero_add] at hS); go_simp; (try with_reducible rfl)
    try simp only [Act.put, sA, sZ, sS]
    refine takeH (i := 1) (d := 9) (v := ?_) rfl rfl (by kernel_rfl) (by kernel_rfl) (by kernel_rfl) (fun _ _ _ h => h) (Or.inl ⟨by kernel_rfl, ?_⟩) hH ?_
    rotate_left 1
    · intro w hS; (try dsimp only [EntAt, SrcAt, Nat.zero_add] at hS); go_simp; (try with_reducible rfl)
    try simp only [Act.put, sA, sZ, sS]
    refine takeH (i := 2) (d := 10) (v := ?_) rfl rfl (by kernel_rfl) (by kernel_rfl) (by kernel_rfl) (fun _ _ _ h => h) (Or.inl ⟨by kernel_rfl, ?_⟩) hH ?_
    rotate_left 1
    · intro w hS; (try dsimp only [EntAt, SrcAt, Nat.zero_add] at hS); go_simp; (try with_reducible rfl)
    try simp only [Act.put, sA, sZ, sS]
    refine takeH (i := 3) (d := 11) (v := ?_) rfl rfl (by kernel_rfl) (by kernel_rfl) (by kernel_rfl) (fun _ _ _ h => h) (Or.inl ⟨by kernel_rfl, ?_⟩) hH ?_
    rotate_left 1
    · intro w hS; (try dsimp only [EntAt, SrcAt, Nat.zero_add] at hS); go_simp; (try with_reducible rfl)
    try simp only [Act.put, sA, sZ, sS]
    refine takeH (i := 4) (d := 12) (v := ?_) rfl rfl (by kernel_rfl) (by kernel_rfl) (by kernel_rfl) (fun _ _ _ h => h) (Or.inl ⟨by kernel_rfl, ?_⟩) hH ?_
    rotate_left 1
    · intro w hS; (try dsimp only [EntAt, SrcAt, Nat.zero_add] at hS); go_simp; (try with_reducible rfl)
    try simp only [Act.put, sA, sZ, sS]
    refine takeH (i := 5) (d := 13) (v := ?_) rfl rfl (by kernel_rfl) (by kernel_rfl) (by kernel_rfl) (fun _ _ _ h => h) (Or.inl ⟨by kernel_rfl, ?_⟩) hH ?_
    rotate_left 1
    · intro w hS; (try dsimp only [EntAt, SrcAt, Nat.zero_add] at hS); go_simp; (try with_reducible rfl)
    try simp only [Act.put, sA, sZ, sS]
    refine wpAnyH_ready (rs := [6]) (by kernel_rfl) (by simp) ?_
    refine AllReadyH.cons rfl (fun K hK => ?_) AllReadyH.nil
    go_simp
    refine (add_any w0 _ sb v1 hs2 _ r no _ rfl h2d hh2 hcut hfew).mono ?_
    rintro e w3 ⟨v3, hs3, rfl, h3, hp3, hh3, hop3⟩
    have hOB : w3.heap[w1.heap.size]? = _ := hop3.block w1.heap.size (by show w1.heap.size < (w1.alloc _).heap.size; simp) (by have := h1.lt; omega) (fun e => by have := h1.row_lt _ e; omega)
    have hRB : w3.heap[w.heap.size]? = _ := hop3.block w.heap.size (by show w.heap.size < (w1.alloc _).heap.size; simp; omega) (by omega) (fun e => hv1 _ e rfl)
    refine hK.out _ _ (hH.of_block hOB) (fun hB => ?_)
    clear hK K
    try simp only [Act.put, sA, sZ, sS]
    refine wpAnyH_done (by kernel_rfl) ?_ _
    refine NoPanic.normal ?_
    have hz3 := boxKept hzd hRB
    have hx3 := hxa.of_block (h3.bel.block bx hxa.lt)
    have hop5 := ((hop0.trans hop1).trans (Hop.below b2d)).trans hop3
    have hv3 : v3.ownBlock ≠ some w.heap.size := fun e => by
      rcases hop3.row _ e with e | e
      · exact hv1 _ e rfl
      · have e2 : (w1.alloc (.cells #[.slice (some ⟨bx, ox, none⟩) (0 + 1) 1, .int .i64 no] 167)).heap.size ≤ w.heap.size := e
        simp at e2; omega
    have hne : w.heap.size ≠ sb := by omega
    have HEND : Hid (Hp w0 ((((w3.setCell ⟨w.heap.size, 0, none⟩ (.string x.key)).setCell ⟨w.heap.size, 1, none⟩ (.string x.val)).setCell ⟨w.heap.size, 2, none⟩ (.int .i64 x.seq)).setCell ⟨w.heap.size, 3, none⟩ (.bool x.gone)) sb v3 hs3 ∧ Hop w v sb ((((w3.setCell ⟨w.heap.size, 0, none⟩ (.string x.key)).setCell ⟨w.heap.size, 1, none⟩ (.string x.val)).setCell ⟨w.heap.size, 2, none⟩ (.int .i64 x.seq)).setCell ⟨w.heap.size, 3, none⟩ (.bool x.gone)) v3) :=
      ⟨(((h3.set 0 _ HBW.out hne hv3).set 1 _ HBW.out hne hv3).set 2 _ HBW.out hne hv3).set 3 _ HBW.out hne hv3, (((hop5.set 0 _ (Nat.le_refl _)).set 1 _ (Nat.le_refl _)).set 2 _ (Nat.le_refl _)).set 3 _ (Nat.le_refl _)⟩
    have HPP : Hid (hs.Perm (sN hs 0 :: hs1) ∧ hs3.Perm (rest hs1 (.slice (some ⟨bx, ox, none⟩) 0 0) r no) ∧ HP hs3 hs3.length) := ⟨hp1, hp3.trans (rest_perm hp2 _ _ _), hh3⟩
    obtain ⟨k1, k2⟩ := hB
    obtain ⟨z0, z1, z2, z3, f0, f1, f2, f3⟩ := hz3.facts
    obtain ⟨c0, c1, c2, c3⟩ := id hx3
    have hneO : ¬ w1.heap.size = w.heap.size := by omega
    clear hOB hRB hp1 hp2 hp3 hh3 hh2 h3 h2d hcut hfew hop0 hop1 hop3 hop5 hv3 hzd hsrc b2d hv1
    simp only [Nat.zero_add] at k1 k2
    go_wp2
    have x0 : ((((w3.setCell ⟨w.heap.size, 0, none⟩ (.string x.key)).setCell ⟨w.heap.size, 1, none⟩ (.string x.val)).setCell ⟨w.heap.size, 2, none⟩ (.int .i64 x.seq)).setCell ⟨w.heap.size, 3, none⟩ (.bool x.gone)).cell? ⟨w.heap.size, 0, none⟩ = some (.string x.key) := (entAt_putsM hz3.1 x).1
    have x1 := (entAt_putsM hz3.1 x).2.1
    have x2 := (entAt_putsM hz3.1 x).2.2.1
    have x3 := (entAt_putsM hz3.1 x).2.2.2
    rw [Nat.zero_add] at x1 x2 x3
    exact bodyPost_ret (v := .agg #[.string x.key, .string x.val, .int .i64 x.seq, .bool x.gone]) (by simp [results, Tryz.results122, go_sem, x0, x1, x2, x3]) rfl ((HTP.out _ _).2 ⟨hs1, hs3, _, v3, rfl, HPP.out.1, HPP.out.2.1, HEND.out.1, HPP.out.2.2, HEND.out.2⟩)
  · skip
    have hcut := rdE_tl hrd HNR.out hc1
    have h1n : (1 : Int) ≤ (n : Int) + 1 := by omega
    go_wp2_with fail
    refine wp_region_noPanic ?_
    refine wp_region_held_drew (S := fun W => SrcAt W w1.heap.size 0 ⟨.slice (some ⟨bx, ox, none⟩) (n + 1) cap, [], no⟩) (by kernel_rfl) hsrc (fun hH => ?_)
    refine takeH (i := 0) (d := 8) (v := ?_) rfl rfl (by kernel_rfl) (by kernel_rfl) (by kernel_rfl) (fun _ _ _ h => h) (Or.inl ⟨by kernel_rfl, ?_⟩) hH ?_
    rotate_left 1
    · intro w hS; (try dsimp only [EntAt, SrcAt, Nat.zero_add] at hS); go_simp; (try with_reducible rfl)
    try simp only [Act.put, sA, sZ, sS]
    refine takeH (i := 1) (d := 9) (v := ?_) rfl rfl (by kernel_rfl) (by kernel_rfl) (by kernel_rfl) (fun _ _ _ h => h) (Or.inl ⟨by kernel_rfl, ?_⟩) hH ?_
    rotate_left 1
    · intro w hS; (try dsimp only [EntAt, SrcAt, Nat.zero_add] at hS); go_simp; (try with_reducible rfl)
    try simp only [Act.put, sA, sZ, sS]
    refine takeH (i := 2) (d := 10) (v := ?_) rfl rfl (by kernel_rfl) (by kernel_rfl) (by kernel_rfl) (fun _ _ _ h => h) (Or.inl ⟨by kernel_rfl, ?_⟩) hH ?_
    rotate_left 1
    · intro w hS; (try dsimp only [EntAt, SrcAt, Nat.zero_add] at hS); go_simp; (try with_reducible rfl)
    try simp only [Act.put, sA, sZ, sS]
    refine takeH (i := 3) (d := 11) (v := ?_) rfl rfl (by kernel_rfl) (by kernel_rfl) (by kernel_rfl) (fun _ _ _ h => h) (Or.inl ⟨by kernel_rfl, ?_⟩) hH ?_
    rotate_left 1
    · intro w hS; (try dsimp only [EntAt, SrcAt, Nat.zero_add] at hS); go_simp; (try with_reducible rfl)
    try simp only [Act.put, sA, sZ, sS]
    refine takeH (i := 4) (d := 12) (v := ?_) rfl rfl (by kernel_rfl) (by kernel_rfl) (by kernel_rfl) (fun _ _ _ h => h) (Or.inl ⟨by kernel_rfl, ?_⟩) hH ?_
    rotate_left 1
    · intro w hS; (try dsimp only [EntAt, SrcAt, Nat.zero_add] at hS); go_simp; (try with_reducible rfl)
    try simp only [Act.put, sA, sZ, sS]
    refine takeH (i := 5) (d := 13) (v := ?_) rfl rfl (by kernel_rfl) (by kernel_rfl) (by kernel_rfl) (fun _ _ _ h => h) (Or.inl ⟨by kernel_rfl, ?_⟩) hH ?_
    rotate_left 1
    · intro w hS; (try dsimp only [EntAt, SrcAt, Nat.zero_add] at hS); go_simp; (try with_reducible rfl)
    try simp only [Act.put, sA, sZ, sS]
    refine wpAnyH_ready (rs := [6]) (by kernel_rfl) (by simp) ?_
    refine AllReadyH.cons rfl (fun K hK => ?_) AllReadyH.nil
    go_simp
    refine (add_any w0 _ sb v1 hs2 _ r no _ rfl h2d hh2 hcut hfew).mono ?_
    rintro e w3 ⟨v3, hs3, rfl, h3, hp3, hh3, hop3⟩
    have hOB : w3.heap[w1.heap.size]? = _ := hop3.block w1.heap.size (by show w1.heap.size < (w1.alloc _).heap.size; simp) (by have := h1.lt; omega) (fun e => by have := h1.row_lt _ e; omega)
    have hRB : w3.heap[w.heap.size]? = _ := hop3.block w.heap.size (by show w.heap.size < (w1.alloc _).heap.size; simp; omega) (by omega) (fun e => hv1 _ e rfl)
    refine hK.out _ _ (hH.of_block hOB) (fun hB => ?_)
    clear hK K
    try simp only [Act.put, sA, sZ, sS]
    refine wpAnyH_done (by kernel_rfl) ?_ _
    refine NoPanic.normal ?_
    have hz3 := boxKept hzd hRB
    have hx3 := hxa.of_block (h3.bel.block bx hxa.lt)
    have hop5 := ((hop0.trans hop1).trans (Hop.below b2d)).trans hop3
    have hv3 : v3.ownBlock ≠ some w.heap.size := fun e => by
      rcases hop3.row _ e with e | e
      · exact hv1 _ e rfl
      · have e2 : (w1.alloc (.cells #[.slice (some ⟨bx, ox, none⟩) (n + 1) cap, .int .i64 no] 167)).heap.size ≤ w.heap.size := e
        simp at e2; omega
    have hne : w.heap.size ≠ sb := by omega
    have HEND : Hid (Hp w0 ((((w3.setCell ⟨w.heap.size, 0, none⟩ (.string x.key)).setCell ⟨w.heap.size, 1, none⟩ (.string x.val)).setCell ⟨w.heap.size, 2, none⟩ (.int .i64 x.seq)).setCell ⟨w.heap.size, 3, none⟩ (.bool x.gone)) sb v3 hs3 ∧ Hop w v sb ((((w3.setCell ⟨w.heap.size, 0, none⟩ (.string x.key)).setCell ⟨w.heap.size, 1, none⟩ (.string x.val)).setCell ⟨w.heap.size, 2, none⟩ (.int .i64 x.seq)).setCell ⟨w.heap.size, 3, none⟩ (.bool x.gone)) v3) :=
      ⟨(((h3.set 0 _ HBW.out hne hv3).set 1 _ HBW.out hne hv3).set 2 _ HBW.out hne hv3).set 3 _ HBW.out hne hv3, (((hop5.set 0 _ (Nat.le_refl _)).set 1 _ (Nat.le_refl _)).set 2 _ (Nat.le_refl _)).set 3 _ (Nat.le_refl _)⟩
    have HPP : Hid (hs.Perm (sN hs 0 :: hs1) ∧ hs3.Perm (rest hs1 (.slice (some ⟨bx, ox + 4, none⟩) n (cap - 1)) r no) ∧ HP hs3 hs3.length) := ⟨hp1, hp3.trans (rest_perm hp2 _ _ _), hh3⟩
    obtain ⟨k1, k2⟩ := hB
    obtain ⟨z0, z1, z2, z3, f0, f1, f2, f3⟩ := hz3.facts
    obtain ⟨c0, c1, c2, c3⟩ := id hx3
    have hneO : ¬ w1.heap.size = w.heap.size := by omega
    clear hOB hRB hp1 hp2 hp3 hh3 hh2 h3 h2d hcut hfew hop0 hop1 hop3 hop5 hv3 hzd hsrc b2d hv1
    simp only [Nat.zero_add] at k1 k2
    go_wp2
    have x0 : ((((w3.setCell ⟨w.heap.size, 0, none⟩ (.string x.key)).setCell ⟨w.heap.size, 1, none⟩ (.string x.val)).setCell ⟨w.heap.size, 2, none⟩ (.int .i64 x.seq)).setCell ⟨w.heap.size, 3, none⟩ (.bool x.gone)).cell? ⟨w.heap.size, 0, none⟩ = some (.string x.key) := (entAt_putsM hz3.1 x).1
    have x1 := (entAt_putsM hz3.1 x).2.1
    have x2 := (entAt_putsM hz3.1 x).2.2.1
    have x3 := (entAt_putsM hz3.1 x).2.2.2
    rw [Nat.zero_add] at x1 x2 x3
    exact bodyPost_ret (v := .agg #[.string x.key, .string x.val, .int .i64 x.seq, .bool x.gone]) (by simp [results, Tryz.results122, go_sem, x0, x1, x2, x3]) rfl ((HTP.out _ _).2 ⟨hs1, hs3, _, v3, rfl, HPP.out.1, HPP.out.2.1, HEND.out.1, HPP.out.2.2, HEND.out.2⟩)
end Go.Proofs.YtbefmbjlogkmbaaGreat
