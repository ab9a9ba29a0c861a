/- The contract of the model's Built. -/
import Derived.Test.YthaobdknpgnapaaTabSpec5
namespace Go.Proofs.Ythaobdknpgnapaa
open Go.RowKit
/-- What Built leaves. -/
def BuiltPost (w : World) (T : Tbl) (ok : Bool) (e : Ending) (w' : World) : Prop :=
  ∃ vb vk, e = .returned (.tuple #[.agg #[.string T.first, .string T.last, vb, vk], .bool ok]) ∧ OwnI w' w.heap.size vb T.bits ∧ OwnS w' w.heap.size vk T.blocks ∧ Below w.heap.size w w'
theorem ownI_zero (w : World) (B : Nat) : OwnI w B (.slice none 0 0) [] := ⟨rfl, .inl ⟨rfl, rfl⟩⟩
theorem ownS_zero (w : World) (B : Nat) : OwnS w B (.slice none 0 0) [] := ⟨rfl, .inl ⟨rfl, rfl⟩⟩
theorem builtPost_no {w W : World} {es : List Ent} (h : builtOk es = false) (hb : Below w.heap.size w W) : BuiltPost w (builtL es) (builtOk es) (.returned (.tuple #[.agg #[.string ⟨#[]⟩, .string ⟨#[]⟩, .slice none 0 0, .slice none 0 0], .bool false])) W := by
  unfold builtL
  rw [h, if_neg (by simp)]
  exact ⟨_, _, rfl, ownI_zero _ _, ownS_zero _ _, hb⟩
theorem builtPost_yes {w W : World} {es : List Ent} {vb vk : Value} (h : builtOk es = true) (hi : OwnI W w.heap.size vb (builtT es).bits) (hk : OwnS W w.heap.size vk (builtT es).blocks) (hb : Below w.heap.size w W) : BuiltPost w (builtL es) (builtOk es) (.returned (.tuple #[.agg #[.string (builtT es).first, .string (builtT es).last, vb, vk], .bool true])) W := by
  unfold builtL
  rw [h, if_pos rfl]
  exact ⟨_, _, rfl, hi, hk, hb⟩
set_option maxHeartbeats 1000000 in
set_option maxRecDepth 100000 in
theorem specBuilt_any (v : Value) (es : List Ent) (w : World) (hr : RdE w v es) (hf : ∀ e ∈ es, Fits e) :
    Calls Try.prog 23 #[v] w fun e w' => BuiltPost w (builtL es) (builtOk es) e w' := by
  have HF : Hid (∀ e ∈ es, Fits e) := hf
  clear hf
  obtain ⟨a, cap, hv, hl, hm, _⟩ := id hr
  obtain ⟨nn, hnn⟩ : ∃ nn, nn = es.length := ⟨_, rfl⟩
  have HNN : Hid (nn = es.length) := hnn
  rw [← hnn] at hv hl
  subst hv
  clear hnn
  unfold maxLen at hm
  have hz := boxT_new w ⟨#[]⟩ ⟨#[]⟩ (.slice none 0 0) (.slice none 0 0)
  have b0 := below1 w (.cells #[.string ⟨#[]⟩, .string ⟨#[]⟩, .slice none 0 0, .slice none 0 0] 41)
  have hr0 := hr.below b0
  cases hok : okL es with
  | false =>
    have HOK : Hid (okL es = false) := hok
    have RES : Hid (builtOk es = false) := by unfold Hid builtOk; rw [hok]; rfl
    clear hok
    go_enter Try.func23, Try.ntmps23
    go_wp2_with fail
    refine (specOk_no _ es _ hr0 HF.out HOK.out).mono ?_
    rintro e w1 ⟨rfl, hb1⟩
    obtain ⟨z0, z1, z2, z3, f0, f1, f2, f3⟩ := (hz.below hb1).facts
    have b1 := b0.trans (hb1.mono b0.size)
    clear hz hb1
    go_wp2
    exact bodyPost_ret (v := .tuple #[.agg #[.string ⟨#[]⟩, .string ⟨#[]⟩, .slice none 0 0, .slice none 0 0], .bool false]) (by simp [results, Try.results23, go_sem, z0, z1, z2, z3]) rfl (builtPost_no RES.out (below4 b1 (Nat.le_refl _) _ _ _ _ _ _ _ _))
  | true =>
    have HOK : Hid (okL es = true) := hok
    have hlen := okL_len hok
    rw [← HNN.out] at hlen
    by_cases h0 : nn = 0
    · have RES : Hid (builtOk es = false) := by unfold Hid builtOk; rw [← HNN.out, h0]; simp
      have hd : ((nn : Int) == 0) = true := by simp; omega
      clear hok h0
      go_enter Try.func23, Try.ntmps23
      go_wp2_with fail
      refine (specOk_yes _ es _ hr0 HF.out HOK.out).mono ?_
      rintro e w1 ⟨rfl, hb1⟩
      obtain ⟨z0, z1, z2, z3, f0, f1, f2, f3⟩ := (hz.below hb1).facts
      have b1 := b0.trans (hb1.mono b0.size)
      clear hz hb1
      go_wp2
      exact bodyPost_ret (v := .tuple #[.agg #[.string ⟨#[]⟩, .string ⟨#[]⟩, .slice none 0 0, .slice none 0 0], .bool false]) (by simp [results, Try.results23, go_sem, z0, z1, z2, z3]) rfl (builtPost_no RES.out (below4 b1 (Nat.le_refl _) _ _ _ _ _ _ _ _))
    · have RES : Hid (builtOk es = true) := by unfold Hid builtOk; rw [hok, ← HNN.out]; simp [h0]
      have hd : ((nn : Int) == 0) = false := by simp; omega
      have HC : Hid (∀ W, RdE W (.slice a nn cap) es → Calls Try.prog 63 #[.slice a nn cap] W fun e w' => TabPost W (builtT es) e w') := fun W h => l5Built_any _ es W h (fun e he => okE_pk (okL_all HOK.out e he)) (by rw [← HNN.out]; omega) (by rw [← HNN.out]; omega)
      have HY : Hid (∀ W vb vk, OwnI W w.heap.size vb (builtT es).bits → OwnS W w.heap.size vk (builtT es).blocks → Below w.heap.size w W → BuiltPost w (builtL es) (builtOk es) (.returned (.tuple #[.agg #[.string (builtT es).first, .string (builtT es).last, vb, vk], .bool true])) W) := fun W vb vk h1 h2 h3 => builtPost_yes RES.out h1 h2 h3
      clear hok h0
      generalize builtT es = T at HC HY
      go_enter Try.func23, Try.ntmps23
      go_wp2_with fail
      refine (specOk_yes _ es _ hr0 HF.out HOK.out).mono ?_
      rintro e w1 ⟨rfl, hb1⟩
      have hz1 := hz.below hb1
      have b1 := b0.trans (hb1.mono b0.size)
      clear hz
      go_wp2_with fail
      refine (HC.out _ (hr0.below hb1)).mono ?_
      rintro e w2 ⟨vb, vk, rfl, hvb, hvk, hb2⟩
      have hz2 := hz1.below hb2
      obtain ⟨z0, z1, z2, z3, f0, f1, f2, f3⟩ := hz2.facts
      have b2 := b1.trans (hb2.mono b1.size)
      have hvb2 := hvb.mono b1.size
      have hvk2 := hvk.mono b1.size
      have nb := boxT_row hz2 hvb2 (by decide)
      have nk := boxT_row hz2 hvk2 (by decide)
      obtain ⟨ab, cb, hsb, _⟩ := id hvb2.rd
      obtain ⟨ak, ck, hsk, _⟩ := id hvk2.rd
      generalize T.bits.length = bn at hsb
      generalize T.blocks.length = kn at hsk
      subst hsb
      subst hsk
      clear hz1 hb1 hb2 hvb hvk
      go_wp2
      exact bodyPost_ret (v := .tuple #[.agg #[.string T.first, .string T.last, .slice ab bn cb, .slice ak kn ck], .bool true]) (by simp [results, Try.results23, go_sem, z0, z1, z2, z3]) rfl (HY.out _ _ _ (row_set (row_set (row_set (row_set hvb2 nb) nb) nb) nb) (row_set (row_set (row_set (row_set hvk2 nk) nk) nk) nk) (below4 b2 (Nat.le_refl _) _ _ _ _ _ _ _ _))
end Go.Proofs.Ythaobdknpgnapaa
