/- The contract of the program's Bottom. -/
import Derived.Test.YtihacdfchmobpaaMrgImpl2
namespace Go.Proofs.Ytihacdfchmobpaa
open Go.RowKit
theorem bottomR_eq (es : List Ent) (qs : List Int) : bottomR es qs = bottomOf (seensR es qs) := by
  unfold bottomR seensR
  split
  · rfl
  · rfl
theorem seensR_ok (es : List Ent) (qs : List Int) : okL (seensR es qs) = true := by
  unfold seensR
  split
  · rename_i h; exact seens_ok (told_ok h) qs
  · rfl
set_option maxHeartbeats 4000000 in
set_option maxRecDepth 100000 in
theorem implBottom_any (v vq : Value) (es : List Ent) (qs : List Int) (w : World) (hr : RdE w v es) (hq : RdI w vq qs) (hf : ∀ e ∈ es, Fits e) :
    Calls Try.prog 17 #[v, vq] w fun e w' => RowPost w (bottomR es qs) e w' := by
  have HC : Hid (Calls _ _ _ _ _) := implSeens_any v vq es qs w hr hq hf
  have hok := seensR_ok es qs
  rw [bottomR_eq]
  generalize seensR es qs = al at HC hok
  have hsl := okL_len hok
  have HOK : Hid (okL al = true) := hok
  obtain ⟨i0, hi, hz0, hz1, hz2⟩ := info_parts Try.info26
  clear hr hq hf hok
  go_enter Try.func17, Try.ntmps17
  go_wp2_with fail
  refine HC.out.mono ?_
  rintro e w1 ⟨ua, rfl, hoa, hba⟩
  obtain ⟨nn, hnn⟩ : ∃ nn, nn = al.length := ⟨_, rfl⟩
  have HNN : Hid (nn = al.length) := hnn
  have hra := hoa.rd
  obtain ⟨aa, ca, hva, hla, hma, _⟩ := id hra
  rw [← hnn] at hva hla hsl
  subst hva
  unfold maxLen at hma
  have hp1 := ownP_none w1
  have b1 := below1 w1 (.cells #[] 26)
  clear hnn HC hoa
  go_wp2
  go_loopw [6, 7] (fun o i wr => ∃ (k : Nat) (ps : List (Value × List Ent)), k ≤ nn ∧ i = .int .i64 k ∧ ps.length ≤ k ∧ OwnP wr w1.heap.size o ps ∧ Hid (∀ p ∈ ps, RdE w1 p.1 p.2) ∧ Hid (bottomOf al = joinE ps ++ bottomOf (al.drop k)) ∧ Below w1.heap.size w1 wr) (fun _ i _ => nn - (intOf i).toNat)
  case atStart => exact ⟨0, [], Nat.zero_le _, rfl, Nat.le_refl _, hp1, (fun p hp => by cases hp), rfl, b1⟩
  case round =>
    obtain ⟨k, ps, hk, rfl, hpk, ho, HP, HJ, hb⟩ := hrel
    clear hp1 b1
    have hrw := hra.below hb
    by_cases hlt : k < nn
    · skip
      go_wp2_with fail
      refine (endOfKey_any _ al k _ hrw (by rw [← HNN.out]; exact hlt)).mono ?_
      rintro e w2 ⟨t, rfl, hkt, htn, h1, h2, n2, rfl⟩
      have HST : Hid (bottomOf (al.drop k) = stripG ((al.take t).drop k) ++ bottomOf (al.drop t)) := bottom_step HOK.out hkt htn h1 h2
      rw [← HNN.out] at htn
      clear h1 h2
      have hrw2 := hrw.drewN n2
      have ho2 := ho
      have hb2 := belowN hb n2
      have hp2 : OwnP (wr.drewN n2) w1.heap.size u6 ps := ho
      generalize wr.drewN n2 = W2 at hrw2 hb2 hp2 ⊢
      clear ho ho2 hb hrw
      go_wp2_with fail
      refine (cut_at _ al k t _ _ _ rfl rfl hrw2 (by omega) (by rw [← HNN.out]; omega)).mono ?_
      rintro e w3 ⟨u, rfl, hu, rfl⟩
      have hu1 := hu _ hrw2
      have hu0 := hu _ hra
      generalize (al.take t).drop k = gr at hu hu1 hu0 HST
      clear hu
      go_wp2_with fail
      refine (withoutGone_any _ gr _ hu1).mono ?_
      rintro e w4 ⟨u4, rfl, hu4, rfl⟩
      have hu40 := hu4 _ hu0
      obtain ⟨zs, hzs⟩ : ∃ zs, zs = stripG gr := ⟨_, rfl⟩
      rw [← hzs] at hu40 HST
      have HP2 : Hid (∀ p ∈ ps ++ [(u4, zs)], RdE w1 p.1 p.2) := by
        intro p hp
        rcases List.mem_append.1 hp with h | h
        · exact HP.out p h
        · simp at h; subst h; exact hu40
      obtain ⟨a4, c4, hua, _⟩ := id hu40
      obtain ⟨z4, hz4⟩ : ∃ z4, z4 = zs.length := ⟨_, rfl⟩
      rw [← hz4] at hua
      subst hua
      have hs := hb2.size
      have HJ2 : Hid (bottomOf al = joinE (ps ++ [(.slice a4 z4 c4, zs)]) ++ bottomOf (al.drop t)) := by unfold Hid; rw [joinE_push, HJ.out, HST.out, List.append_assoc]
      clear hu4 hu40 hu1 hu0 hzs hz4 HST HJ HP
      go_wp2_with (at_builtin; (refine wpList_append_own _ rfl _ _ 24 rfl w1.heap.size 26 i0 (.slice none 0 0) 1 24 Try.underlying24 hi hz0 hz1 hz2 rfl (by decide) _ _ _ rfl (World.ownsRow.alloc hp2 _) ⟨w4.heap.size, 0, none⟩ 1 1 [.slice a4 z4 c4] rfl rfl ?c1 ?c2 ?c3 ?c4 ?c5 ?_))
      case c1 => exact one_new_at _ _ _ _ rfl
      case c2 => intro z hz; simp at hz; subst hz; rfl
      case c3 => unfold maxLen; omega
      case c4 => omega
      case c5 => simp; omega
      intro v5 w5 ho5 hg5 _
      have R1 : OwnP w5 w1.heap.size v5 (ps ++ [(.slice a4 z4 c4, zs)]) := ownP_push ho5
      have bz5 : Below w1.heap.size w1 w5 := (hb2.alloc hs _).grown hg5 (by simp; omega) (fun k hk => (World.ownsRow.lt hp2 k hk).1)
      have hpl : (ps ++ [(Value.slice a4 z4 c4, zs)]).length ≤ t := by rw [List.length_append]; simp; omega
      clear ho5 hg5 hb2 hp2 hrw2
      go_wp2
      go_roundw
      case rel => exact ⟨t, _, htn, rfl, hpl, R1, HP2, HJ2, bz5⟩
      case measure => simp [intOf]; omega
    · skip
      have hke : k = nn := by omega
      have HJ2 : Hid (bottomOf al = joinE ps) := by
        unfold Hid
        rw [HJ.out, hke, HNN.out, List.drop_eq_nil_of_le (Nat.le_refl _)]
        exact List.append_nil _
      clear hke
      have hjl : (joinE ps).length ≤ 1000000 := by rw [← HJ2.out]; have := bot_len al; rw [← HNN.out] at this; omega
      go_wp2_with fail
      refine (joined_any _ ps _ (ho.pieces (fun p hp => (HP.out p hp).below hb)) hjl (by omega)).mono ?_
      rintro e w3 ⟨u, rfl, ho3, hb3⟩
      have bz := hba.trans ((hb.trans (hb3.mono hb.size)).mono hba.size)
      have ho4 : OwnE w3 w.heap.size u (bottomOf al) := by rw [HJ2.out]; exact ho3.mono (Nat.le_trans hba.size hb.size)
      clear ho3 hb3
      go_wp2
      go_ret
      exact ⟨_, rfl, ho4, bz⟩
end Go.Proofs.Ytihacdfchmobpaa
