/- Plain facts on taking the first of what is left of some lists, again and again: no function of the program is walked here. The heap in memory: a row of what is left of some lists, behind a variable; its methods through an interface value. The contracts of the heap's order and of its exchange. The contract of the heap's exchange. -/
import Derived.Test.YtbefmbjlogkmbaaGreatG16
import Derived.Test.YtbefmbjlogkmbaaGreatMrgSpec3
import Derived.RegionTactic
import Derived.ChangeAlike
namespace Go.Proofs.YtbefmbjlogkmbaaGreat
set_option maxHeartbeats 16000000
set_option maxRecDepth 100000
def nxt (out : List Ent) (x : Ent) : List Ent := if out.length = 0 ∨ sameKS (nth out (out.length - 1)) x = false then out ++ [x] else out
def rest (hs1 : List Src) (v : Value) (r : List Ent) (no : Nat) : List Src := if r.length = 0 then hs1 else hs1 ++ [⟨v, r, no⟩]
theorem rest_mem {hs1 : List Src} {v : Value} {r : List Ent} {no : Nat} {s : Src} (h : s ∈ rest hs1 v r no) : s ∈ hs1 ∨ (s = ⟨v, r, no⟩ ∧ r ≠ []) := by
  unfold rest at h
  split at h
  · exact .inl h
  · rename_i hr
    rcases List.mem_append.1 h with h | h
    · exact .inl h
    · exact .inr ⟨List.mem_singleton.1 h, fun e => hr (by rw [e]; rfl)⟩
theorem mem_rest {hs1 : List Src} {v : Value} {r : List Ent} {no : Nat} {s : Src} (h : s ∈ hs1) : s ∈ rest hs1 v r no := by
  unfold rest
  split
  · exact h
  · exact List.mem_append_left _ h
theorem new_rest {hs1 : List Src} {v : Value} {r : List Ent} {no : Nat} (h : r ≠ []) : (⟨v, r, no⟩ : Src) ∈ rest hs1 v r no := by
  unfold rest
  split
  · rename_i e; exact absurd (List.eq_nil_of_length_eq_zero e) h
  · simp
theorem last_mem {out : List Ent} (h : 0 < out.length) : nth out (out.length - 1) ∈ out := by rw [nth_eq (by omega)]; exact List.getElem_mem _
theorem sr_last {out : List Ent} (h : Sr out) {o : Ent} (ho : o ∈ out) : o = nth out (out.length - 1) ∨ ahd o (nth out (out.length - 1)) = true := by
  obtain ⟨i, hi, rfl⟩ := List.getElem_of_mem ho
  by_cases he : i = out.length - 1
  · left; subst he; rw [nth_eq (by omega)]
  · right
    rw [nth_eq (show out.length - 1 < out.length by omega)]
    exact List.pairwise_iff_getElem.1 h i (out.length - 1) hi (by omega) (by omega)
theorem told_take {ls : List (List Ent)} {hs hs1 hs2 : List Src} {P : List (Ent × Nat)} {out : List Ent} {s0 : Src} {v : Value} {x : Ent} {r : List Ent} (h : Told ls hs P out) (hp : hs.Perm (s0 :: hs1)) (hx : s0.es = x :: r)
    (hmin : ∀ s ∈ hs, lessS s s0 = false) (hp2 : hs2.Perm (rest hs1 v r s0.no)) : Told ls hs2 ((x, s0.no) :: P) (nxt out x) := by
  have h0 : s0 ∈ hs := hp.mem_iff.2 List.mem_cons_self
  have h1 : ∀ s, s ∈ hs1 → s ∈ hs := fun s hs => hp.mem_iff.2 (List.mem_cons_of_mem _ hs)
  have hm2 : ∀ s, s ∈ hs2 → s ∈ hs1 ∨ (s = ⟨v, r, s0.no⟩ ∧ r ≠ []) := fun s hs => rest_mem (hp2.mem_iff.1 hs)
  have hn : (s0.no :: hs1.map Src.no).Nodup := (hp.map Src.no).nodup_iff.1 h.apart
  have hn' := List.nodup_cons.1 hn
  obtain ⟨_, hsr0, l0, hl0, hml0⟩ := h.left s0 h0
  rw [hx] at hsr0 hml0
  have hsr := List.pairwise_cons.1 hsr0
  have hxh : s0.hd = x := by unfold Src.hd; rw [hx, nth_zero]
  have hP : ∀ p ∈ P, ltT p.1 p.2 x s0.no = true := fun p hp => h.ahead p hp s0 h0 x (by rw [hx]; exact List.mem_cons_self)
  have hO : ∀ o ∈ out, ahd o x = true ∨ sameKS o x = true := fun o ho => by
    obtain ⟨j, hj, _⟩ := h.first o ho
    have := (ltT_iff _ _ _ _).1 (hP _ hj)
    rcases this with e | e
    · exact .inl e
    · exact .inr e.1
  have base : ∀ out', Sr out' → (∀ o ∈ out', ∃ j, (o, j) ∈ (x, s0.no) :: P ∧ ∀ p ∈ (x, s0.no) :: P, sameKS p.1 o = true → j ≤ p.2) → (∀ p ∈ (x, s0.no) :: P, ∃ o ∈ out', sameKS o p.1 = true) → Told ls hs2 ((x, s0.no) :: P) out' := by
    intro out' g1 g2 g3
    refine ⟨fun s hs => ?_, ?_, fun p hp' => ?_, fun i l e hl he => ?_, fun p hp' s hs e he => ?_, g1, g2, g3⟩
    · rcases hm2 s hs with hs | ⟨rfl, hr⟩
      · exact h.left s (h1 s hs)
      · exact ⟨hr, hsr.2, l0, hl0, fun e he => hml0 e (List.mem_cons_of_mem _ he)⟩
    · rw [(hp2.map Src.no).nodup_iff]
      unfold rest
      split
      · exact hn'.2
      · rw [List.map_append, List.nodup_append]
        refine ⟨hn'.2, by simp, fun a ha b hb => ?_⟩
        simp at hb
        subst hb
        intro e
        subst e
        exact hn'.1 ha
    · rcases List.mem_cons.1 hp' with rfl | hp'
      · exact ⟨l0, hl0, hml0 x List.mem_cons_self⟩
      · exact h.part p hp'
    · rcases h.all i l e hl he with hp' | ⟨s, hs, hno, hes⟩
      · exact .inl (List.mem_cons_of_mem _ hp')
      · rcases List.mem_cons.1 (hp.mem_iff.1 hs) with rfl | hs
        · rw [hx] at hes
          rcases List.mem_cons.1 hes with rfl | her
          · rw [← hno]; exact .inl List.mem_cons_self
          · have hr : r ≠ [] := fun e => by rw [e] at her; cases her
            exact .inr ⟨_, hp2.mem_iff.2 (new_rest hr), hno, her⟩
        · exact .inr ⟨s, hp2.mem_iff.2 (mem_rest hs), hno, hes⟩
    · rcases List.mem_cons.1 hp' with rfl | hp'
      · rcases hm2 s hs with hs | ⟨rfl, hr⟩
        · have hne : s.no ≠ s0.no := fun e => hn'.1 (by rw [← e]; exact List.mem_map_of_mem hs)
          have hlt : ltT x s0.no s.hd s.no = true := by
            rcases ltT_tri x s0.no s.hd s.no with k | k | k
            · exact k
            · have := hmin s (h1 s hs)
              unfold lessS at this
              rw [hxh, k] at this; cases this
            · exact absurd k.2.symm hne
          obtain ⟨hne', hss, _⟩ := h.left s (h1 s hs)
          cases hse : s.es with
          | nil => exact absurd hse hne'
          | cons y t =>
            have hyh : s.hd = y := by unfold Src.hd; rw [hse, nth_zero]
            rw [hse] at he hss
            rw [hyh] at hlt
            rcases List.mem_cons.1 he with rfl | he
            · exact hlt
            · have := (List.pairwise_cons.1 hss).1 e he
              exact ltT_trans hlt ((ltT_iff _ _ _ _).2 (.inl this))
        · exact (ltT_iff _ _ _ _).2 (.inl (hsr.1 e he))
      · rcases hm2 s hs with hs | ⟨rfl, hr⟩
        · exact h.ahead p hp' s (h1 s hs) e he
        · exact h.ahead p hp' s0 h0 e (by rw [hx]; exact List.mem_cons_of_mem _ he)
  unfold nxt
  split
  · rename_i hc
    have hno : ∀ o ∈ out, sameKS o x = false := fun o ho => by
      cases hk : sameKS o x with
      | false => rfl
      | true =>
        exfalso
        have hlen : 0 < out.length := List.length_pos_of_mem ho
        rcases hc with hc | hc
        · omega
        · rcases sr_last h.sorted ho with e | e
          · rw [← e, hk] at hc; cases hc
          · rcases hO _ (last_mem hlen) with k | k
            · exact ahd_same (ahd_trans e k) hk
            · rw [k] at hc; cases hc
    refine base _ ?_ (fun o ho => ?_) (fun p hp' => ?_)
    · unfold Sr
      rw [List.pairwise_append]
      refine ⟨h.sorted, by simp, fun a ha b hb => ?_⟩
      rw [List.mem_singleton.1 hb]
      rcases hO a ha with k | k
      · exact k
      · rw [hno a ha] at k; cases k
    · rcases List.mem_append.1 ho with ho | ho
      · obtain ⟨j, hj, hf⟩ := h.first o ho
        refine ⟨j, List.mem_cons_of_mem _ hj, fun p hp' hk => ?_⟩
        rcases List.mem_cons.1 hp' with rfl | hp'
        · have := hno o ho
          rw [sameKS_symm hk] at this; cases this
        · exact hf p hp' hk
      · rw [List.mem_singleton.1 ho]
        refine ⟨s0.no, List.mem_cons_self, fun p hp' hk => ?_⟩
        rcases List.mem_cons.1 hp' with rfl | hp'
        · exact Nat.le_refl _
        · obtain ⟨o', ho', hk'⟩ := h.has p hp'
          have := hno o' ho'
          rw [sameKS_trans hk' hk] at this; cases this
    · rcases List.mem_cons.1 hp' with rfl | hp'
      · exact ⟨x, by simp, sameKS_refl x⟩
      · obtain ⟨o', ho', hk'⟩ := h.has p hp'
        exact ⟨o', List.mem_append_left _ ho', hk'⟩
  · rename_i hc
    have hlen : 0 < out.length := Nat.pos_of_ne_zero (fun e => hc (.inl e))
    have hk : sameKS (nth out (out.length - 1)) x = true := by
      cases e : sameKS (nth out (out.length - 1)) x with
      | true => rfl
      | false => exact absurd (.inr e) hc
    refine base _ h.sorted (fun o ho => ?_) (fun p hp' => ?_)
    · obtain ⟨j, hj, hf⟩ := h.first o ho
      refine ⟨j, List.mem_cons_of_mem _ hj, fun p hp' hk2 => ?_⟩
      rcases List.mem_cons.1 hp' with rfl | hp'
      · have := (ltT_iff _ _ _ _).1 (hP _ hj)
        rcases this with e | e
        · exact (ahd_same e (sameKS_symm hk2)).elim
        · simp only at e ⊢; omega
      · exact hf p hp' hk2
    · rcases List.mem_cons.1 hp' with rfl | hp'
      · exact ⟨_, last_mem hlen, hk⟩
      · exact h.has p hp'
structure Start (ls : List (List Ent)) (k : Nat) (hs : List Src) : Prop where
  left : ∀ s ∈ hs, s.no < k ∧ ls[s.no]? = some s.es ∧ s.es ≠ []
  apart : (hs.map Src.no).Nodup
  all : ∀ (i : Nat) (l : List Ent), i < k → ls[i]? = some l → l ≠ [] → ∃ s ∈ hs, s.no = i
theorem start_nil (ls : List (List Ent)) : Start ls 0 [] := ⟨(fun s hs => by cases hs), List.nodup_nil, (fun i l hi => by omega)⟩
theorem start_step {ls : List (List Ent)} {k : Nat} {hs hs2 : List Src} {v : Value} {l : List Ent} (h : Start ls k hs) (hl : ls[k]? = some l) (hp : hs2.Perm (rest hs v l k)) : Start ls (k + 1) hs2 := by
  have hm : ∀ s, s ∈ hs2 → s ∈ hs ∨ (s = ⟨v, l, k⟩ ∧ l ≠ []) := fun s hs => rest_mem (hp.mem_iff.1 hs)
  refine ⟨fun s hs => ?_, ?_, fun i m hi hm' hne => ?_⟩
  · rcases hm s hs with hs | ⟨rfl, hr⟩
    · have := h.left s hs; exact ⟨by omega, this.2⟩
    · exact ⟨by simp, hl, hr⟩
  · rw [(hp.map Src.no).nodup_iff]
    unfold rest
    split
    · exact h.apart
    · rw [List.map_append, List.nodup_append]
      refine ⟨h.apart, by simp, fun a ha b hb => ?_⟩
      simp at hb
      subst hb
      obtain ⟨s, hs, rfl⟩ := List.mem_map.1 ha
      have := (h.left s hs).1
      omega
  · by_cases hik : i = k
    · subst hik
      rw [hl] at hm'
      obtain rfl := Option.some.inj hm'
      exact ⟨_, hp.mem_iff.2 (new_rest hne), rfl⟩
    · obtain ⟨s, hs, hno⟩ := h.all i m (by omega) hm' hne
      exact ⟨s, hp.mem_iff.2 (mem_rest hs), hno⟩
theorem start_told {ls : List (List Ent)} {hs : List Src} (hsr : ∀ l ∈ ls, Sr l) (h : Start ls ls.length hs) : Told ls hs [] [] := by
  refine ⟨fun s hs => ?_, h.apart, (fun p hp => by cases hp), fun i l e hl he => ?_, (fun p hp => by cases hp), List.Pairwise.nil, (fun o ho => by cases ho), (fun p hp => by cases hp)⟩
  · obtain ⟨_, h1, h2⟩ := h.left s hs
    exact ⟨h2, hsr _ (List.mem_of_getElem? h1), s.es, h1, fun e he => he⟩
  · right
    have hil : i < ls.length := (List.getElem?_eq_some_iff.1 hl).1
    obtain ⟨s, hs, hno⟩ := h.all i l hil hl (fun e' => by rw [e'] at he; cases he)
    obtain ⟨_, h1, _⟩ := h.left s hs
    rw [hno, hl] at h1
    obtain rfl := Option.some.inj h1
    exact ⟨s, hs, hno, he⟩
open Go.RowKit
theorem run_wrapNil (P : Program) (w : World) (t : TypeId) (a : Addr) (n : String) : (Builtin.ssaWrapNilChk_ #[t] t #[.pointer (some a), strVal "", strVal n]).run P w = .ok (.pointer (some a)) w := rfl
theorem run_method_val {P : Program} {w : World} {t elem se : TypeId} {K b f : Nat} {v : Value} {name : String} (hm : ((P.info? t).bind fun i => i.methods.find? (·.name == name)).map (fun m => (m.path, m.func)) = some (#[], some (K, false)))
    (hu : P.underlying t = some (.pointer elem)) (he : P.underlying elem = some (.slice se)) (h : w.cell? ⟨b, 0, none⟩ = some v) : (method (f + 1) t (.pointer (some ⟨b, 0, none⟩)) name).run P w = .ok (K, v) w := by
  obtain ⟨i, hi⟩ : ∃ i, P.info? t = some i := by
    cases h : P.info? t with
    | none => rw [h] at hm; simp at hm
    | some i => exact ⟨i, rfl⟩
  rw [hi] at hm
  obtain ⟨m, hm1⟩ : ∃ m, i.methods.find? (·.name == name) = some m := by
    cases h : i.methods.find? (·.name == name) with
    | none => simp only [Option.bind_some, h] at hm; simp at hm
    | some m => exact ⟨m, rfl⟩
  simp only [Option.bind_some, hm1, Option.map_some, Option.some.injEq, Prod.mk.injEq] at hm
  have h2 := run_wrapNil P w t ⟨b, 0, none⟩
  simp [method, typeInfo, hi, hm1, hm.1, hm.2, follow, receiverAt, underlying, hu, he, Place.get, h2, asAddr, loadVar, isAgg, h, Result.andThen]
theorem m_Len (w : World) (b : Nat) (v : Value) (h : w.cell? ⟨b, 0, none⟩ = some v) : (method 320 141 (.pointer (some ⟨b, 0, none⟩)) "Len").run Tryz.prog w = .ok (121, v) w :=
  run_method_val (by kernel_rfl) Tryz.underlying141 Tryz.underlying143 h
theorem m_Less (w : World) (b : Nat) (v : Value) (h : w.cell? ⟨b, 0, none⟩ = some v) : (method 320 141 (.pointer (some ⟨b, 0, none⟩)) "Less").run Tryz.prog w = .ok (181, v) w :=
  run_method_val (by kernel_rfl) Tryz.underlying141 Tryz.underlying143 h
theorem m_Swap (w : World) (b : Nat) (v : Value) (h : w.cell? ⟨b, 0, none⟩ = some v) : (method 320 141 (.pointer (some ⟨b, 0, none⟩)) "Swap").run Tryz.prog w = .ok (184, v) w :=
  run_method_val (by kernel_rfl) Tryz.underlying141 Tryz.underlying143 h
theorem m_Push (w : World) (b : Nat) : (method 320 141 (.pointer (some ⟨b, 0, none⟩)) "Push").run Tryz.prog w = .ok (183, .pointer (some ⟨b, 0, none⟩)) w := by kernel_rfl
theorem m_Pop (w : World) (b : Nat) : (method 320 141 (.pointer (some ⟨b, 0, none⟩)) "Pop").run Tryz.prog w = .ok (182, .pointer (some ⟨b, 0, none⟩)) w := by kernel_rfl
theorem Tryz.info167 : (Tryz.prog.info? 167).map (fun i => (i.zero, i.size, i.bytes)) = some (some (.agg #[.slice none 0 0, .int .i64 0]), 2, 32) := by kernel_rfl
def HCs (s : Src) : List Value := [s.v, .int .i64 s.no]
def HV (hs : List Src) : List Value := hs.flatMap HCs
theorem HV_length : ∀ hs : List Src, (HV hs).length = hs.length * 2
  | [] => rfl
  | a :: r => by
    have := HV_length r
    unfold HV at this ⊢
    rw [List.flatMap_cons, List.length_append, this, List.length_cons]
    simp [HCs]; omega
theorem HV_append (a b : List Src) : HV (a ++ b) = HV a ++ HV b := by simp [HV]
theorem HV_one (s : Src) : HV [s] = HCs s := by simp [HV]
theorem HV_cons (a : Src) (r : List Src) : HV (a :: r) = HCs a ++ HV r := by simp [HV]
theorem sN_zero (a : Src) (r : List Src) : sN (a :: r) 0 = a := rfl
theorem sN_succ (a : Src) (r : List Src) (i : Nat) : sN (a :: r) (i + 1) = sN r i := rfl
theorem HV_get : ∀ (hs : List Src) (i : Nat), i < hs.length → ∀ j, j < 2 → (HV hs)[i * 2 + j]? = (HCs (sN hs i))[j]?
  | [], i, h, _, _ => by simp at h
  | a :: r, 0, _, j, hj => by
    rw [HV_cons, sN_zero, Nat.zero_mul, Nat.zero_add, List.getElem?_append_left (by simp [HCs]; exact hj)]
  | a :: r, i + 1, h, j, hj => by
    rw [HV_cons, sN_succ, ← HV_get r i (by simpa using h) j hj, List.getElem?_append_right (by simp [HCs]; omega)]
    congr 1
    simp [HCs]; omega
theorem HV_set : ∀ (hs : List Src) (i : Nat) (s : Src), i < hs.length → HV (hs.set i s) = ((HV hs).set (i * 2) s.v).set (i * 2 + 1) (.int .i64 s.no)
  | [], i, s, h => by simp at h
  | a :: r, 0, s, _ => by
    rw [List.set_cons_zero, HV_cons, HV_cons]
    simp [HCs]
  | a :: r, i + 1, s, h => by
    rw [List.set_cons_succ, HV_cons, HV_cons, HV_set r i s (by simpa using h)]
    have e1 : (i + 1) * 2 = i * 2 + 2 := by omega
    rw [e1]
    simp [HCs]
def SrcAt (w : World) (b o : Nat) (s : Src) : Prop := w.cell? ⟨b, o, none⟩ = some s.v ∧ w.cell? ⟨b, o + 1, none⟩ = some (.int .i64 s.no)
theorem SrcAt.lt {w : World} {b o : Nat} {s : Src} (h : SrcAt w b o s) : b < w.heap.size := World.block_lt_of_cell? w _ h.1
theorem SrcAt.of_block {w w' : World} {b o : Nat} {s : Src} (h : SrcAt w b o s) (hb : w'.heap[b]? = w.heap[b]?) : SrcAt w' b o s :=
  ⟨(World.cell?_of_block (a := ⟨b, o, none⟩) hb).trans h.1, (World.cell?_of_block (a := ⟨b, o + 1, none⟩) hb).trans h.2⟩
theorem SrcAt.below {w w' : World} {b o : Nat} {s : Src} (h : SrcAt w b o s) (hb : Below w.heap.size w w') : SrcAt w' b o s := h.of_block (hb.block b h.lt)
def OwnH (w : World) (base : Nat) (v : Value) (hs : List Src) : Prop := w.ownsRow base 167 2 v hs.length (HV hs)
theorem ownH_at {w : World} {base g cap n : Nat} {hs : List Src} (h : OwnH w base (.slice (some ⟨g, 0, none⟩) n cap) hs) (i : Nat) (hi : i < hs.length) : SrcAt w g (i * 2) (sN hs i) := by
  have hn : n = hs.length := by
    rcases h.2 with ⟨h0, _⟩ | ⟨g', cap', cur, hv, _⟩
    · cases h0
    · simp only [Value.slice.injEq] at hv; exact hv.2.1
  subst hn
  have c : ∀ j, j < 2 → w.cell? ⟨g, i * 2 + j, none⟩ = (HCs (sN hs i))[j]? := fun j hj => (World.ownsRow.cellAt h (i * 2 + j) (by omega)).trans (HV_get hs i hi j hj)
  exact ⟨c 0 (by omega), c 1 (by omega)⟩
theorem ownH_shape {w : World} {base : Nat} {v : Value} {hs : List Src} (h : OwnH w base v hs) (h0 : 0 < hs.length) : ∃ g cap, v = .slice (some ⟨g, 0, none⟩) hs.length cap ∧ hs.length ≤ cap ∧ cap ≤ maxLen := by
  rcases h.2 with ⟨_, h1⟩ | ⟨g, cap, cur, hv, _, _, h2, h3, _⟩
  · omega
  · exact ⟨g, cap, hv, h2, h3⟩
theorem ownH_len {w : World} {base : Nat} {v : Value} {hs : List Src} (h : OwnH w base v hs) : ∃ a cap, v = .slice a hs.length cap ∧ hs.length ≤ cap ∧ cap ≤ maxLen := by
  rcases h.2 with ⟨hv, h1⟩ | ⟨g, cap, cur, hv, _, _, h2, h3, _⟩
  · exact ⟨none, 0, by rw [hv, h1], by omega, Nat.zero_le _⟩
  · exact ⟨_, cap, hv, h2, h3⟩
theorem OwnH.below {w w' : World} {base : Nat} {v : Value} {hs : List Src} (h : OwnH w base v hs) (hb : Below w.heap.size w w') : OwnH w' base v hs := own_below h hb
structure Hp (w0 w : World) (sb : Nat) (v : Value) (hs : List Src) : Prop where
  bel : Below w0.heap.size w0 w
  ge : w0.heap.size ≤ sb
  box : w.heap[sb]? = some (.cells #[v] 143 (0, 0))
  own : OwnH w w0.heap.size v hs
  ne : ∀ k, v.ownBlock = some k → k ≠ sb
  rd : ∀ s ∈ hs, RdE w0 s.v s.es ∧ s.es ≠ []
  few : hs.length ≤ 20
theorem Hp.cell {w0 w : World} {sb : Nat} {v : Value} {hs : List Src} (h : Hp w0 w sb v hs) : w.cell? ⟨sb, 0, none⟩ = some v := by simp [World.cell?, h.box]
theorem Hp.lt {w0 w : World} {sb : Nat} {v : Value} {hs : List Src} (h : Hp w0 w sb v hs) : sb < w.heap.size := World.block_lt_of_cell? w _ h.cell
theorem Hp.below {w0 w w' : World} {sb : Nat} {v : Value} {hs : List Src} (h : Hp w0 w sb v hs) (hb : Below w.heap.size w w') : Hp w0 w' sb v hs :=
  ⟨h.bel.trans (hb.mono h.bel.size), h.ge, (hb.block sb h.lt).trans h.box, h.own.below hb, h.ne, h.rd, h.few⟩
structure Hop (w : World) (v : Value) (sb : Nat) (w' : World) (v' : Value) : Prop where
  size : w.heap.size ≤ w'.heap.size
  block : ∀ k, k < w.heap.size → k ≠ sb → v.ownBlock ≠ some k → w'.heap[k]? = w.heap[k]?
  row : ∀ k, v'.ownBlock = some k → v.ownBlock = some k ∨ w.heap.size ≤ k
theorem Hop.refl (w : World) (v : Value) (sb : Nat) : Hop w v sb w v := ⟨Nat.le_refl _, fun _ _ _ _ => rfl, fun _ h => .inl h⟩
theorem Hop.trans {w w1 w2 : World} {v v1 v2 : Value} {sb : Nat} (h : Hop w v sb w1 v1) (k : Hop w1 v1 sb w2 v2) : Hop w v sb w2 v2 :=
  ⟨Nat.le_trans h.size k.size, fun i hi hs hv => (k.block i (Nat.lt_of_lt_of_le hi h.size) hs (fun e => by
      rcases h.row i e with e | e
      · exact hv e
      · omega)).trans (h.block i hi hs hv),
   fun i hi => by
      rcases k.row i hi with e | e
      · exact h.row i e
      · exact .inr (Nat.le_trans h.size e)⟩
theorem Hop.below {w w' : World} {v : Value} {sb : Nat} (h : Below w.heap.size w w') : Hop w v sb w' v := ⟨h.size, fun k hk _ _ => h.block k hk, fun _ h => .inl h⟩
theorem ltT_ord (x y : Ent) (i j : Nat) : (if ordE x y ≠ 0 then ordE x y else cmpI i j) < 0 ↔ ltT x i y j = true := by
  rw [ltT_iff]
  by_cases h : ordE x y = 0
  · rw [if_neg (by simpa using h), (ordE_zero x y).1 h]
    have h2 : ¬ ahd x y = true := fun e => by have := (ordE_neg x y).2 e; omega
    simp only [h2, true_and]
    unfold cmpI
    split
    · simp; omega
    · split
      · simp; omega
      · simp; omega
  · rw [if_pos h, ordE_neg]
    have h2 : ¬ sameKS x y = true := fun e => h ((ordE_zero x y).2 e)
    simp [h2]
open Go.RowKit
theorem isNaNn_any (x : Int) (w : World) : Calls Tryz.prog 186 #[.int .i64 x] w fun e w' => e = .returned (.bool false) ∧ w' = w := by
  have hx : (x != x) = false := by simp
  go_enter Tryz.func186, Tryz.ntmps186
  go_wp2
  go_ret
  exact ⟨rfl, rfl⟩
theorem cmpN_any (a b : Int) (w : World) : Calls Tryz.prog 185 #[.int .i64 a, .int .i64 b] w fun e w' => e = .returned (.int .i64 (cmpI a b)) ∧ w' = w := by
  go_enter Tryz.func185, Tryz.ntmps185
  go_wp2_with (go_at_call 186; refine (isNaNn_any _ _).mono ?_; rintro e w' ⟨rfl, rfl⟩)
  all_goals go_ret
  all_goals exact ⟨ret_intE (by unfold cmpI; first | rw [if_pos ‹_›] | (rw [if_neg (by omega)]; first | rw [if_pos ‹_›] | rw [if_neg (by omega)])), rfl⟩
theorem two_new (w : World) (x y : Value) (t : TypeId) : (w.alloc (.cells #[x, y] t)).cell? ⟨w.heap.size, 0, none⟩ = some x ∧ (w.alloc (.cells #[x, y] t)).cell? ⟨w.heap.size, 1, none⟩ = some y := by
  constructor <;> simp [World.cell?_alloc_at]
theorem ordE_bd (x y : Ent) : -1 ≤ ordE x y ∧ ordE x y ≤ 1 := by
  unfold ordE
  split
  · exact cmpK_bd _ _
  · exact cmpI_bd _ _
theorem Hp.src {w0 w : World} {sb : Nat} {v : Value} {hs : List Src} (h : Hp w0 w sb v hs) {i : Nat} (hi : i < hs.length) :
    ∃ b off n cap x r, (sN hs i).v = .slice (some ⟨b, off, none⟩) (n + 1) cap ∧ (sN hs i).es = x :: r ∧ n = r.length ∧ n + 1 ≤ cap ∧ cap ≤ maxLen ∧ EntAt w b off x ∧ (sN hs i).hd = x := by
  obtain ⟨hr, hne⟩ := h.rd _ (sN_mem hi)
  cases he : (sN hs i).es with
  | nil => exact absurd he hne
  | cons x r =>
    rw [he] at hr
    obtain ⟨b, off, n, cap, hv, hn, h1, h2, hx⟩ := rdE_hd hr
    exact ⟨b, off, n, cap, x, r, hv, rfl, hn, h1, h2, hx.of_block (h.bel.block b hx.lt), by unfold Src.hd; rw [he, nth_zero]⟩
theorem less_any (w0 w : World) (sb : Nat) (v : Value) (hs : List Src) (i j : Nat) (h : Hp w0 w sb v hs) (hi : i < hs.length) (hj : j < hs.length) :
    Calls Tryz.prog 181 #[v, .int .i64 i, .int .i64 j] w fun e w' => e = .returned (.bool (lessS (sN hs i) (sN hs j))) ∧ Below w.heap.size w w' := by
  obtain ⟨g, cap, hv, hlc, hcm⟩ := ownH_shape h.own (by omega)
  have hown := h.own
  rw [hv] at hown
  have ha := ownH_at hown i hi
  have hb := ownH_at hown j hj
  obtain ⟨ba, oa, na, ca, x, ra, hva, _, _, hca, hma, hxa, hha⟩ := h.src hi
  obtain ⟨bb, ob, nb, cb, y, rb, hvb, _, _, hcb, hmb, hxb, hhb⟩ := h.src hj
  have RES : Hid (∀ z, z = (if ordE x y ≠ 0 then ordE x y else cmpI (sN hs i).no (sN hs j).no) → decide (z < 0) = lessS (sN hs i) (sN hs j)) := by
    intro z hz
    have := ltT_ord x y (sN hs i).no (sN hs j).no
    unfold lessS
    rw [hz, Bool.eq_iff_iff, decide_eq_true_eq, hha, hhb]
    exact this
  obtain ⟨k1, k2⟩ := ha
  obtain ⟨k3, k4⟩ := hb
  rw [hva] at k1
  rw [hvb] at k3
  obtain ⟨L, hL⟩ : ∃ L, L = lessS (sN hs i) (sN hs j) := ⟨_, rfl⟩
  rw [← hL] at RES ⊢
  generalize (sN hs i).no = ia at k2 RES
  generalize (sN hs j).no = ib at k4 RES
  obtain ⟨n, hn⟩ : ∃ n, n = hs.length := ⟨_, rfl⟩
  rw [← hn] at hv hlc hi hj
  subst hv
  unfold maxLen at hcm hma hmb
  have bx := ordE_bd x y
  have hy1 := cmpI_bd ia ib
  obtain ⟨z, hz⟩ : ∃ z, z = (if ordE x y ≠ 0 then ordE x y else cmpI ia ib) := ⟨_, rfl⟩
  have HZ : Hid (z = (if ordE x y ≠ 0 then ordE x y else cmpI ia ib)) := hz
  have HR := RES.out z hz
  have HRH : Hid (decide (z < 0) = L) := HR
  have HCO : Hid (∀ W, Calls Tryz.prog 108 #[.agg #[.string x.key, .string x.val, .int .i64 x.seq, .bool x.gone], .agg #[.string y.key, .string y.val, .int .i64 y.seq, .bool y.gone]] W fun e w' => e = .returned (.int .i64 (ordE x y)) ∧ Below W.heap.size W w') := fun W => entryOrder_any x y W
  have hic : i < cap := by omega
  have hjc : j < cap := by omega
  clear hz HR RES hL hn h hown hha hhb hva hvb
  generalize ordE x y = oxy at bx HZ HCO
  go_enter Tryz.func181, Tryz.ntmps181
  go_wp2_with fail
  refine wp_region_noPanic ?_
  refine wp_region_held_drew (S := fun W => SrcAt W g (i * 2) ⟨.slice (some ⟨ba, oa, none⟩) (na + 1) ca, [], ia⟩ ∧ SrcAt W g (j * 2) ⟨.slice (some ⟨bb, ob, none⟩) (nb + 1) cb, [], ib⟩ ∧ EntAt W ba oa x ∧ EntAt W bb ob y) (by kernel_rfl) ⟨⟨k1, k2⟩, ⟨k3, k4⟩, hxa, hxb⟩ (fun hH => ?_)
  refine takeH (i := 0) (d := 7) (v := ?_) rfl rfl (by kernel_rfl) (by kernel_rfl) (by kernel_rfl) (fun _ _ _ h => h) (Or.inl ⟨by kernel_rfl, ?_⟩) hH ?_
  rotate_left 1
  · intro w hS; (try dsimp only [EntAt, SrcAt, Nat.zero_add] at hS); go_simp; (try with_reducible rfl)
  try simp only [Act.put, sA, sZ, sS]
  refine takeH (i := 1) (d := 8) (v := ?_) rfl rfl (by kernel_rfl) (by kernel_rfl) (by kernel_rfl) (fun _ _ _ h => h) (Or.inl ⟨by kernel_rfl, ?_⟩) hH ?_
  rotate_left 1
  · intro w hS; (try dsimp only [EntAt, SrcAt, Nat.zero_add] at hS); go_simp; (try with_reducible rfl)
  try simp only [Act.put, sA, sZ, sS]
  refine takeH (i := 2) (d := 9) (v := ?_) rfl rfl (by kernel_rfl) (by kernel_rfl) (by kernel_rfl) (fun _ _ _ h => h) (Or.inl ⟨by kernel_rfl, ?_⟩) hH ?_
  rotate_left 1
  · intro w hS; (try dsimp only [EntAt, SrcAt, Nat.zero_add] at hS); go_simp; (try with_reducible rfl)
  try simp only [Act.put, sA, sZ, sS]
  refine takeH (i := 3) (d := 10) (v := ?_) rfl rfl (by kernel_rfl) (by kernel_rfl) (by kernel_rfl) (fun _ _ _ h => h) (Or.inl ⟨by kernel_rfl, ?_⟩) hH ?_
  rotate_left 1
  · intro w hS; (try dsimp only [EntAt, SrcAt, Nat.zero_add] at hS); go_simp; (try with_reducible rfl)
  try simp only [Act.put, sA, sZ, sS]
  refine takeH (i := 4) (d := 11) (v := ?_) rfl rfl (by kernel_rfl) (by kernel_rfl) (by kernel_rfl) (fun _ _ _ h => h) (Or.inl ⟨by kernel_rfl, ?_⟩) hH ?_
  rotate_left 1
  · intro w hS; (try dsimp only [EntAt, SrcAt, Nat.zero_add] at hS); go_simp; (try with_reducible rfl)
  try simp only [Act.put, sA, sZ, sS]
  refine takeH (i := 5) (d := 12) (v := ?_) rfl rfl (by kernel_rfl) (by kernel_rfl) (by kernel_rfl) (fun _ _ _ h => h) (Or.inl ⟨by kernel_rfl, ?_⟩) hH ?_
  rotate_left 1
  · intro w hS; (try dsimp only [EntAt, SrcAt, Nat.zero_add] at hS); go_simp; (try with_reducible rfl)
  try simp only [Act.put, sA, sZ, sS]
  refine takeH (i := 6) (d := 13) (v := ?_) rfl rfl (by kernel_rfl) (by kernel_rfl) (by kernel_rfl) (fun _ _ _ h => h) (Or.inl ⟨by kernel_rfl, ?_⟩) hH ?_
  rotate_left 1
  · intro w hS; (try dsimp only [EntAt, SrcAt, Nat.zero_add] at hS); go_simp; (try with_reducible rfl)
  try simp only [Act.put, sA, sZ, sS]
  refine takeH (i := 7) (d := 14) (v := ?_) rfl rfl (by kernel_rfl) (by kernel_rfl) (by kernel_rfl) (fun _ _ _ h => h) (Or.inl ⟨by kernel_rfl, ?_⟩) hH ?_
  rotate_left 1
  · intro w hS; (try dsimp only [EntAt, SrcAt, Nat.zero_add] at hS); go_simp; (try with_reducible rfl)
  try simp only [Act.put, sA, sZ, sS]
  refine takeH (i := 8) (d := 15) (v := ?_) rfl rfl (by kernel_rfl) (by kernel_rfl) (by kernel_rfl) (fun _ _ _ h => h) (Or.inl ⟨by kernel_rfl, ?_⟩) hH ?_
  rotate_left 1
  · intro w hS; (try dsimp only [EntAt, SrcAt, Nat.zero_add] at hS); go_simp; (try with_reducible rfl)
  try simp only [Act.put, sA, sZ, sS]
  refine takeH (i := 9) (d := 16) (v := ?_) rfl rfl (by kernel_rfl) (by kernel_rfl) (by kernel_rfl) (fun _ _ _ h => h) (Or.inl ⟨by kernel_rfl, ?_⟩) hH ?_
  rotate_left 1
  · intro w hS; (try dsimp only [EntAt, SrcAt, Nat.zero_add] at hS); go_simp; (try with_reducible rfl)
  try simp only [Act.put, sA, sZ, sS]
  refine takeH (i := 10) (d := 17) (v := ?_) rfl rfl (by kernel_rfl) (by kernel_rfl) (by kernel_rfl) (fun _ _ _ h => h) (Or.inl ⟨by kernel_rfl, ?_⟩) hH ?_
  rotate_left 1
  · intro w hS; (try dsimp only [EntAt, SrcAt, Nat.zero_add] at hS); go_simp; (try with_reducible rfl)
  try simp only [Act.put, sA, sZ, sS]
  refine takeH (i := 11) (d := 18) (v := ?_) rfl rfl (by kernel_rfl) (by kernel_rfl) (by kernel_rfl) (fun _ _ _ h => h) (Or.inl ⟨by kernel_rfl, ?_⟩) hH ?_
  rotate_left 1
  · intro w hS; (try dsimp only [EntAt, SrcAt, Nat.zero_add] at hS); go_simp; (try with_reducible rfl)
  try simp only [Act.put, sA, sZ, sS]
  refine takeH (i := 12) (d := 19) (v := ?_) rfl rfl (by kernel_rfl) (by kernel_rfl) (by kernel_rfl) (fun _ _ _ h => h) (Or.inl ⟨by kernel_rfl, ?_⟩) hH ?_
  rotate_left 1
  · intro w hS; (try dsimp only [EntAt, SrcAt, Nat.zero_add] at hS); go_simp; (try with_reducible rfl)
  try simp only [Act.put, sA, sZ, sS]
  refine takeH (i := 13) (d := 20) (v := ?_) rfl rfl (by kernel_rfl) (by kernel_rfl) (by kernel_rfl) (fun _ _ _ h => h) (Or.inl ⟨by kernel_rfl, ?_⟩) hH ?_
  rotate_left 1
  · intro w hS; (try dsimp only [EntAt, SrcAt, Nat.zero_add] at hS); go_simp; (try with_reducible rfl)
  try simp only [Act.put, sA, sZ, sS]
  refine takeH (i := 15) (d := 22) (v := ?_) rfl rfl (by kernel_rfl) (by kernel_rfl) (by kernel_rfl) (fun _ _ _ h => h) (Or.inl ⟨by kernel_rfl, ?_⟩) hH ?_
  rotate_left 1
  · intro w hS; (try dsimp only [EntAt, SrcAt, Nat.zero_add] at hS); go_simp; (try with_reducible rfl)
  try simp only [Act.put, sA, sZ, sS]
  refine takeH (i := 16) (d := 23) (v := ?_) rfl rfl (by kernel_rfl) (by kernel_rfl) (by kernel_rfl) (fun _ _ _ h => h) (Or.inl ⟨by kernel_rfl, ?_⟩) hH ?_
  rotate_left 1
  · intro w hS; (try dsimp only [EntAt, SrcAt, Nat.zero_add] at hS); go_simp; (try with_reducible rfl)
  try simp only [Act.put, sA, sZ, sS]
  refine takeH (i := 17) (d := 24) (v := ?_) rfl rfl (by kernel_rfl) (by kernel_rfl) (by kernel_rfl) (fun _ _ _ h => h) (Or.inl ⟨by kernel_rfl, ?_⟩) hH ?_
  rotate_left 1
  · intro w hS; (try dsimp only [EntAt, SrcAt, Nat.zero_add] at hS); go_simp; (try with_reducible rfl)
  try simp only [Act.put, sA, sZ, sS]
  refine takeH (i := 18) (d := 25) (v := ?_) rfl rfl (by kernel_rfl) (by kernel_rfl) (by kernel_rfl) (fun _ _ _ h => h) (Or.inl ⟨by kernel_rfl, ?_⟩) hH ?_
  rotate_left 1
  · intro w hS; (try dsimp only [EntAt, SrcAt, Nat.zero_add] at hS); go_simp; (try with_reducible rfl)
  try simp only [Act.put, sA, sZ, sS]
  refine takeH (i := 19) (d := 26) (v := ?_) rfl rfl (by kernel_rfl) (by kernel_rfl) (by kernel_rfl) (fun _ _ _ h => h) (Or.inl ⟨by kernel_rfl, ?_⟩) hH ?_
  rotate_left 1
  · intro w hS; (try dsimp only [EntAt, SrcAt, Nat.zero_add] at hS); go_simp; (try with_reducible rfl)
  try simp only [Act.put, sA, sZ, sS]
  refine takeH (i := 20) (d := 27) (v := ?_) rfl rfl (by kernel_rfl) (by kernel_rfl) (by kernel_rfl) (fun _ _ _ h => h) (Or.inl ⟨by kernel_rfl, ?_⟩) hH ?_
  rotate_left 1
  · intro w hS; (try dsimp only [EntAt, SrcAt, Nat.zero_add] at hS); go_simp; (try with_reducible rfl)
  try simp only [Act.put, sA, sZ, sS]
  refine takeH (i := 21) (d := 28) (v := ?_) rfl rfl (by kernel_rfl) (by kernel_rfl) (by kernel_rfl) (fun _ _ _ h => h) (Or.inl ⟨by kernel_rfl, ?_⟩) hH ?_
  rotate_left 1
  · intro w hS; (try dsimp only [EntAt, SrcAt, Nat.zero_add] at hS); go_simp; (try with_reducible rfl)
  try simp only [Act.put, sA, sZ, sS]
  refine takeH (i := 22) (d := 29) (v := ?_) rfl rfl (by kernel_rfl) (by kernel_rfl) (by kernel_rfl) (fun _ _ _ h => h) (Or.inl ⟨by kernel_rfl, ?_⟩) hH ?_
  rotate_left 1
  · intro w hS; (try dsimp only [EntAt, SrcAt, Nat.zero_add] at hS); go_simp; (try with_reducible rfl)
  try simp only [Act.put, sA, sZ, sS]
  refine takeH (i := 23) (d := 30) (v := ?_) rfl rfl (by kernel_rfl) (by kernel_rfl) (by kernel_rfl) (fun _ _ _ h => h) (Or.inl ⟨by kernel_rfl, ?_⟩) hH ?_
  rotate_left 1
  · intro w hS; (try dsimp only [EntAt, SrcAt, Nat.zero_add] at hS); go_simp; (try with_reducible rfl)
  try simp only [Act.put, sA, sZ, sS]
  refine takeH (i := 24) (d := 31) (v := ?_) rfl rfl (by kernel_rfl) (by kernel_rfl) (by kernel_rfl) (fun _ _ _ h => h) (Or.inl ⟨by kernel_rfl, ?_⟩) hH ?_
  rotate_left 1
  · intro w hS; (try dsimp only [EntAt, SrcAt, Nat.zero_add] at hS); go_simp; (try with_reducible rfl)
  try simp only [Act.put, sA, sZ, sS]
  refine wpAnyH_ready (rs := [14]) (by kernel_rfl) (by simp) ?_
  refine AllReadyH.cons rfl (fun K hK => ?_) AllReadyH.nil
  go_simp
  refine (HCO.out _).mono ?_
  rintro e w3 ⟨rfl, hb3⟩
  refine hK.out _ _ ⟨hH.1.below hb3, hH.2.1.below hb3, hH.2.2.1.below hb3, hH.2.2.2.below hb3⟩ (fun hB => ?_)
  clear hK K
  try simp only [Act.put, sA, sZ, sS]
  clear hH
  refine wpAnyH_ready (rs := [25]) (by kernel_rfl) (by simp) ?_
  refine AllReadyH.cons rfl (fun K hK => ?_) AllReadyH.nil
  go_simp
  refine (cmpN_any _ _ _).mono ?_
  rintro e w4 ⟨rfl, rfl⟩
  refine hK.out _ _ hB (fun hB2 => ?_)
  clear hK K
  try simp only [Act.put, sA, sZ, sS]
  clear hB
  refine wpAnyH_ready (rs := [26]) (by kernel_rfl) (by simp) ?_
  refine AllReadyH.cons rfl (fun K hK => ?_) AllReadyH.nil
  go_simp
  have bN := below1 w4 (.cells #[.int .i64 oxy, .int .i64 (cmpI ia ib)] 3)
  obtain ⟨z0, z1⟩ := two_new w4 (.int .i64 oxy) (.int .i64 (cmpI ia ib)) 3
  refine hK.out _ _ ⟨hB2.1.below bN, hB2.2.1.below bN, hB2.2.2.1.below bN, hB2.2.2.2.below bN⟩ (fun hB3 => ?_)
  clear hK K
  try simp only [Act.put, sA, sZ, sS]
  clear hB2
  refine wpAnyH_ready (rs := [27]) (by kernel_rfl) (by simp) ?_
  refine AllReadyH.cons rfl (fun K hK => ?_) AllReadyH.nil
  go_simp
  refine (or_at oxy (cmpI ia ib) z _ _ HZ.out z0 z1 bx hy1).mono ?_
  rintro e w5 ⟨rfl, rfl⟩
  refine hK.out _ _ hB3 (fun hB4 => ?_)
  clear hK K
  try simp only [Act.put, sA, sZ, sS]
  clear hB3
  refine takeH (i := 28) (d := 35) (v := ?_) rfl rfl (by kernel_rfl) (by kernel_rfl) (by kernel_rfl) (fun _ _ _ h => h) (Or.inl ⟨by kernel_rfl, ?_⟩) hB4 ?_
  rotate_left 1
  · intro w hS; (try dsimp only [EntAt, SrcAt, Nat.zero_add] at hS); go_simp; (try with_reducible rfl)
  try simp only [Act.put, sA, sZ, sS]
  refine takeH (i := 29) (d := 6) (v := ?_) rfl rfl (by kernel_rfl) (by kernel_rfl) (by kernel_rfl) (fun _ _ _ h => h) (Or.inl ⟨by kernel_rfl, ?_⟩) hB4 ?_
  rotate_left 1
  · intro w hS; (try dsimp only [EntAt, SrcAt, Nat.zero_add] at hS); go_simp; (try with_reducible rfl)
  try simp only [Act.put, sA, sZ, sS]
  refine wpAnyH_done (by kernel_rfl) ?_ _
  refine NoPanic.normal ?_
  have bF : Below w.heap.size w (w4.alloc (.cells #[.int .i64 oxy, .int .i64 (cmpI ia ib)] 3)) := (((Below.refl w.heap.size w).drew).trans hb3).trans (bN.mono hb3.size)
  clear hB4 z0 z1 bN hb3
  go_wp2
  go_ret
  exact ⟨ret_bool HRH.out, bF⟩
open Go.RowKit
theorem swap_row {w : World} {base g n cap : Nat} {hs : List Src} {i j : Nat} (hown : OwnH w base (.slice (some ⟨g, 0, none⟩) n cap) hs) (hi : i < hs.length) (hj : j < hs.length) :
    OwnH ((((w.setCell ⟨g, i * 2, none⟩ (sN hs j).v).setCell ⟨g, i * 2 + 1, none⟩ (.int .i64 (sN hs j).no)).setCell ⟨g, j * 2, none⟩ (sN hs i).v).setCell ⟨g, j * 2 + 1, none⟩ (.int .i64 (sN hs i).no)) base (.slice (some ⟨g, 0, none⟩) n cap) (swapS hs i j) ∧
    w.grownBy ((((w.setCell ⟨g, i * 2, none⟩ (sN hs j).v).setCell ⟨g, i * 2 + 1, none⟩ (.int .i64 (sN hs j).no)).setCell ⟨g, j * 2, none⟩ (sN hs i).v).setCell ⟨g, j * 2 + 1, none⟩ (.int .i64 (sN hs i).no)) (some g) := by
  have hn : n = hs.length := by
    rcases hown.2 with ⟨h0, _⟩ | ⟨g', cap', cur, hv, _⟩
    · cases h0
    · simp only [Value.slice.injEq] at hv; exact hv.2.1
  subst hn
  have r1 := World.ownsRow.stored hown (i * 2) (sN hs j).v
  have r2 := World.ownsRow.stored r1.1 (i * 2 + 1) (.int .i64 (sN hs j).no)
  have r3 := World.ownsRow.stored r2.1 (j * 2) (sN hs i).v
  have r4 := World.ownsRow.stored r3.1 (j * 2 + 1) (.int .i64 (sN hs i).no)
  have tr : ∀ {a b c : World}, a.grownBy b (some g) → b.grownBy c (some g) → a.grownBy c (some g) := fun h k =>
    ⟨k.os.trans h.os, k.tape.trans h.tape, k.output.trans h.output, Nat.le_trans h.size k.size, fun i hi hr => (k.block i (Nat.lt_of_lt_of_le hi h.size) hr).trans (h.block i hi hr)⟩
  refine ⟨?_, tr (tr (tr r1.2 r2.2) r3.2) r4.2⟩
  have e : HV (swapS hs i j) = ((((HV hs).set (i * 2) (sN hs j).v).set (i * 2 + 1) (.int .i64 (sN hs j).no)).set (j * 2) (sN hs i).v).set (j * 2 + 1) (.int .i64 (sN hs i).no) := by
    unfold swapS
    rw [HV_set _ j _ (by simpa using hj), HV_set _ i _ hi]
  unfold OwnH
  rw [e, swapS_len]
  exact r4.1
theorem swap_any (w : World) (base g n cap : Nat) (hs : List Src) (i j : Nat) (hown : OwnH w base (.slice (some ⟨g, 0, none⟩) n cap) hs) (hi : i < hs.length) (hj : j < hs.length) (hsl : ∀ s ∈ hs, ∃ a n c, s.v = .slice a n c) :
    Calls Tryz.prog 184 #[.slice (some ⟨g, 0, none⟩) n cap, .int .i64 i, .int .i64 j] w fun e w' => e = .returned (.tuple #[]) ∧ OwnH w' base (.slice (some ⟨g, 0, none⟩) n cap) (swapS hs i j) ∧ w.grownBy w' (some g) := by
  obtain ⟨g', cap', hv', hlc, hcm⟩ := ownH_shape hown (by omega)
  simp only [Value.slice.injEq] at hv'
  obtain ⟨-, hn, hcc⟩ := hv'
  rw [← hcc] at hlc hcm
  have hso := hown
  unfold OwnH at hso
  rw [hn] at hso
  obtain ⟨k1, k2⟩ := ownH_at hown i hi
  obtain ⟨k3, k4⟩ := ownH_at hown j hj
  have f1 := World.ownsRow.frozenAt hso (i * 2)
  have f2 := World.ownsRow.frozenAt hso (i * 2 + 1)
  have f3 := World.ownsRow.frozenAt hso (j * 2)
  have f4 := World.ownsRow.frozenAt hso (j * 2 + 1)
  have R := swap_row hown hi hj
  obtain ⟨a1, n1, c1, hva⟩ := hsl _ (sN_mem hi)
  obtain ⟨a2, n2, c2, hvb⟩ := hsl _ (sN_mem hj)
  rw [hva] at k1 R
  rw [hvb] at k3 R
  generalize hs' : swapS hs i j = hs2 at R
  obtain ⟨na, hna⟩ : ∃ na, na = (sN hs i).no := ⟨_, rfl⟩
  obtain ⟨nb, hnb⟩ : ∃ nb, nb = (sN hs j).no := ⟨_, rfl⟩
  rw [← hna] at k2 R
  rw [← hnb] at k4 R
  have HR : Hid (_ ∧ _) := R
  have hic : i < n := by omega
  have hjc : j < n := by omega
  have hnc : n ≤ cap := by omega
  unfold maxLen at hcm
  by_cases hij : i = j
  · subst hij
    have e1 : a2 = a1 ∧ n2 = n1 ∧ c2 = c1 := by rw [hva] at hvb; simp only [Value.slice.injEq] at hvb; exact ⟨hvb.1.symm, hvb.2.1.symm, hvb.2.2.symm⟩
    obtain ⟨rfl, rfl, rfl⟩ := e1
    obtain rfl : nb = na := by rw [hna, hnb]
    clear hso hown hsl R hna hnb hva hvb hs' hn hcc hlc hi hj
    go_enter Tryz.func184, Tryz.ntmps184
    go_wp2
    go_region
    all_goals (go_end0; exact ⟨rfl, HR.out.1, gr_dr HR.out.2⟩)
  · have hji : ¬ j = i := fun e => hij e.symm
    clear hso hown hsl R hna hnb hva hvb hs' hn hcc hlc hi hj
    go_enter Tryz.func184, Tryz.ntmps184
    go_wp2
    go_region
    all_goals (go_end0; exact ⟨rfl, HR.out.1, gr_dr HR.out.2⟩)
where
  gr_dr {a w : World} {row : Option Nat} (h : a.grownBy w row) : a.grownBy w.drew row := ⟨h.os, h.tape, h.output, h.size, h.block⟩
end Go.Proofs.YtbefmbjlogkmbaaGreat
