/- The contracts of container/heap's Push and Pop at this heap, and of the program's add and take. -/
import Derived.Test.YtihacdfchmobpaaHpPush
namespace Go.Proofs.Ytihacdfchmobpaa
open Go.RowKit
theorem hlen_any (a : Option Addr) (n c : Nat) (w : World) : Calls Try.prog 66 #[.slice a n c] w fun e w' => e = .returned (.int .i64 n) ∧ w' = w := by
  go_enter Try.func66, Try.ntmps66
  go_wp2
  go_ret
  exact ⟨rfl, rfl⟩
theorem Hp.len_any {w0 w : World} {sb : Nat} {v : Value} {hs : List Src} (h : Hp w0 w sb v hs) (n : Nat) (hn : hs.length = n) : Calls Try.prog 66 #[v] w fun e w' => e = .returned (.int .i64 n) ∧ w' = w := by
  obtain ⟨a, cap, hv, -, -⟩ := ownH_len h.own
  subst hn
  rw [hv]
  exact hlen_any a _ cap w
theorem up_at (w0 w : World) (sb : Nat) (v : Value) (hs : List Src) (j : Nat) (x : Int) (hx : x = (j : Int)) (h : Hp w0 w sb v hs) (hj : j < hs.length) (hu : upOk hs j) :
    Calls Try.prog 79 #[.iface 81 (.pointer (some ⟨sb, 0, none⟩)), .int .i64 x] w fun e w' => UpPost w0 w sb v hs e w' := by
  subst hx; exact up_any w0 w sb v hs j h hj hu
/-- What a change of the heap leaves: in its new form it holds what hs holds, in any order. -/
def HeapPost (w0 w : World) (sb : Nat) (v : Value) (hs : List Src) (u : Value) (e : Ending) (w' : World) : Prop :=
  ∃ v' hs', e = .returned u ∧ Hp w0 w' sb v' hs' ∧ hs'.Perm hs ∧ HP hs' hs'.length ∧ Hop w v sb w' v'
set_option maxHeartbeats 1000000 in
set_option maxRecDepth 100000 in
theorem heapPush_any (w0 w : World) (sb : Nat) (v : Value) (hs : List Src) (s : Src) (h : Hp w0 w sb v hs) (hh : HP hs hs.length) (hr : RdE w0 s.v s.es) (hne : s.es ≠ []) (hf : hs.length < 20) :
    Calls Try.prog 75 #[.iface 81 (.pointer (some ⟨sb, 0, none⟩)), .iface 96 (.agg #[s.v, .int .i64 s.no])] w fun e w' => HeapPost w0 w sb v (hs ++ [s]) (.tuple #[]) e w' := by
  have hq := m_Push w sb
  have HC : Hid (Calls _ _ _ _ _) := push_any w0 w sb v hs s h hr hne hf
  have HU : Hid (upOk (hs ++ [s]) hs.length) := up_push s hh
  obtain ⟨n, hn⟩ : ∃ n, hs.length = n := ⟨_, rfl⟩
  rw [hn] at HU hf
  have hl2 : (hs ++ [s]).length = n + 1 := by rw [List.length_append, hn]; rfl
  have HL2 : Hid ((hs ++ [s]).length = n + 1) := hl2
  clear h hh hr hne hn hl2
  generalize hs ++ [s] = hs2 at HC HU HL2
  go_enter Try.func75, Try.ntmps75
  go_wp2_with fail
  refine HC.out.mono ?_
  rintro e w1 ⟨v1, rfl, h1, hop1⟩
  have hq1 := m_Len w1 sb v1 h1.cell
  clear HC hq
  go_wp2_with fail
  refine (h1.len_any (n + 1) HL2.out).mono ?_
  rintro e w2 ⟨rfl, hw2⟩
  obtain rfl := hw2.symm
  clear hq1
  go_wp2_with fail
  refine (up_at w0 _ sb v1 hs2 n _ ?e1 h1 (by rw [HL2.out]; omega) HU.out).mono ?_
  case e1 => omega
  rintro e w3 ⟨hs3, rfl, h3, hp3, hh3, hop3⟩
  have HE : Hid (HeapPost w0 w sb v hs2 (.tuple #[]) (.returned (.tuple #[])) w3) := ⟨v1, hs3, rfl, h3, hp3, hh3, hop1.trans hop3⟩
  clear h1 h3 hp3 hh3 hop1 hop3
  go_wp2
  go_end0
  exact HE.out
set_option maxHeartbeats 1000000 in
set_option maxRecDepth 100000 in
theorem heapPop_any (w0 w : World) (sb : Nat) (v : Value) (hs : List Src) (h : Hp w0 w sb v hs) (hh : HP hs hs.length) (h0 : 0 < hs.length) :
    Calls Try.prog 76 #[.iface 81 (.pointer (some ⟨sb, 0, none⟩))] w fun e w' =>
      ∃ hs1, hs.Perm (sN hs 0 :: hs1) ∧ HeapPost w0 w sb v hs1 (.iface 96 (.agg #[(sN hs 0).v, .int .i64 (sN hs 0).no])) e w' := by
  obtain ⟨n, hn⟩ : ∃ n, hs.length = n + 1 := ⟨hs.length - 1, by omega⟩
  have hq := m_Len w sb v h.cell
  have HD : Hid (dnOk (swapS hs 0 n) 0 n) := dn_root hn hh
  have HSW : Hid (∀ k, sN (swapS hs 0 n) k = if k = n then sN hs 0 else if k = 0 then sN hs n else sN hs k) := fun k => sN_swap h0 (by omega)
  have HSP : Hid ((swapS hs 0 n).Perm hs) := swapS_perm h0 (by omega)
  have hn20 : n ≤ 20 := by have := h.few; omega
  have HN : Hid (hs.length = n + 1) := hn
  clear hh h0 hn
  go_enter Try.func76, Try.ntmps76
  go_wp2_with fail
  refine (h.len_any (n + 1) HN.out).mono ?_
  rintro e w1 ⟨rfl, hw1⟩
  obtain rfl := hw1.symm
  clear hq
  have hq1 := m_Swap w sb v h.cell
  go_wp2_with fail
  refine (swapH_at w0 _ sb v hs 0 n _ _ ?e1 ?e2 h (by rw [HN.out]; omega) (by rw [HN.out]; omega)).mono ?_
  case e1 => rfl
  case e2 => omega
  rintro e w2 ⟨rfl, h2, hop2⟩
  clear hq1 h
  obtain ⟨hs2, hhs2⟩ : ∃ hs2, hs2 = swapS hs 0 n := ⟨_, rfl⟩
  rw [← hhs2] at h2 HD HSW HSP
  clear hhs2
  go_wp2_with fail
  refine (down_any w0 _ sb v hs2 n _ ?e3 h2 (by rw [HSP.out.length_eq, HN.out]; omega) HD.out).mono ?_
  case e3 => omega
  rintro e w3 ⟨hs3, b3, rfl, h3, hp3, ht3, hh3, hop3⟩
  have hop4 := hop2.trans hop3
  have hl3 : hs3.length = n + 1 := by rw [hp3.length_eq, HSP.out.length_eq, HN.out]
  have HLAST : Hid (sN hs3 n = sN hs 0) := by unfold Hid; rw [ht3 n (Nat.le_refl _), HSW.out n, if_pos rfl]
  have HPERM : Hid (hs.Perm (sN hs 0 :: hs3.take n)) := by
    unfold Hid
    have e1 : hs3 = hs3.take n ++ [sN hs3 n] := by
      have := List.take_succ_eq_append_getElem (l := hs3) (i := n) (by omega)
      rw [← sN_eq (by omega), List.take_of_length_le (by omega)] at this
      exact this
    have e2 : hs3.Perm (sN hs3 n :: hs3.take n) := by
      conv => lhs; rw [e1]
      exact List.perm_append_comm
    rw [HLAST.out] at e2
    exact (HSP.out.symm.trans hp3.symm).trans e2
  have HHP : Hid (HP (hs3.take n) (hs3.take n).length) := HP_take (by omega) hh3
  have HC : Hid (Calls _ _ _ _ _) := pop_any w0 w3 sb v hs3 n h3 hl3
  have hq3 := m_Pop w3 sb
  rw [HLAST.out] at HC
  clear h2 h3 hp3 ht3 hh3 hop2 hop3 hl3 HD HSW HSP
  generalize hs3.take n = hs4 at HPERM HHP HC
  go_wp2_with fail
  refine HC.out.mono ?_
  rintro e w5 ⟨v5, rfl, h5, hop5⟩
  have HE : Hid (HeapPost w0 w sb v hs4 (.iface 96 (.agg #[(sN hs 0).v, .int .i64 (sN hs 0).no])) (.returned (.iface 96 (.agg #[(sN hs 0).v, .int .i64 (sN hs 0).no]))) w5) := ⟨v5, hs4, rfl, h5, List.Perm.refl _, HHP.out, hop4.trans hop5⟩
  clear h5 hop5 hop4 HC hq3
  go_wp2
  go_ret
  exact ⟨hs4, HPERM.out, HE.out⟩
set_option maxHeartbeats 1000000 in
set_option maxRecDepth 100000 in
theorem add_any (w0 w : World) (sb : Nat) (v : Value) (hs : List Src) (u : Value) (l : List Ent) (k : Nat) (x : Int) (hx : x = (k : Int)) (h : Hp w0 w sb v hs) (hh : HP hs hs.length) (hr : RdE w0 u l) (hf : hs.length < 20) :
    Calls Try.prog 65 #[.pointer (some ⟨sb, 0, none⟩), u, .int .i64 x] w fun e w' => HeapPost w0 w sb v (rest hs u l k) (.tuple #[]) e w' := by
  subst hx
  obtain ⟨a, cap, hu, h1, h2, -⟩ := id hr
  obtain ⟨n, hn⟩ : ∃ n, n = l.length := ⟨_, rfl⟩
  rw [← hn] at hu h1
  unfold maxLen at h2
  by_cases h0 : n = 0
  · have HE : Hid (HeapPost w0 w sb v (rest hs u l k) (.tuple #[]) (.returned (.tuple #[])) w) := by
      unfold Hid rest
      rw [if_pos (by rw [← hn]; exact h0)]
      exact ⟨v, hs, rfl, h, List.Perm.refl _, hh, Hop.refl _ _ _⟩
    subst hu
    subst h0
    clear h hh hr hf hn
    go_enter Try.func65, Try.ntmps65
    go_wp2
    go_end0
    exact HE.out
  · have HR : Hid (rest hs u l k = hs ++ [⟨u, l, k⟩]) := by unfold Hid rest; rw [if_neg (by rw [← hn]; exact h0)]
    have HC : Hid (Calls _ _ _ _ _) := heapPush_any w0 w sb v hs ⟨u, l, k⟩ h hh hr (fun e => h0 (by have e' : l = [] := e; rw [hn, e']; rfl)) hf
    rw [HR.out]
    have hpos : 0 < n := by omega
    simp only at HC
    generalize hs ++ [(⟨u, l, k⟩ : Src)] = hs2 at HC
    subst hu
    clear HR h hh hr hf hn h0
    go_enter Try.func65, Try.ntmps65
    go_wp2_with fail
    refine HC.out.mono ?_
    rintro e w1 ⟨v1, hs1, rfl, r⟩
    have HE : Hid (HeapPost w0 w sb v hs2 (.tuple #[]) (.returned (.tuple #[])) w1) := ⟨v1, hs1, rfl, r⟩
    clear r HC
    go_wp2
    go_end0
    exact HE.out
end Go.Proofs.Ytihacdfchmobpaa
