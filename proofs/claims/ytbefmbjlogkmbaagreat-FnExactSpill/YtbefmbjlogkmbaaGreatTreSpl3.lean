/- The contract of the program's Spill. -/
import Derived.Test.YtbefmbjlogkmbaaGreatTreSnk3
import Derived.Test.YtbefmbjlogkmbaaGreatG52
namespace Go.Proofs.YtbefmbjlogkmbaaGreat
set_option maxHeartbeats 16000000
set_option maxRecDepth 100000
open Go.RowKit
theorem nod_spill {A V T S R : List Nat} {L M : Nat} (hA : A.Nodup) (hV : V.Nodup) (hT : T.Nodup) (hSR : (S ++ R).Nodup) (hl : ∀ k ∈ S ++ R, k < L) (hT1 : ∀ k ∈ T, L ≤ k ∧ k < M) (hA1 : ∀ k ∈ A, L ≤ k ∧ M ≤ k) (hV1 : ∀ k ∈ V, k ∉ S ∧ k ∉ R ∧ k ∉ T ∧ k ∉ A) :
    (A ++ ((V ++ (T ++ S)) ++ R)).Nodup := by
  obtain ⟨hS, hR, hsr⟩ := List.nodup_append.1 hSR
  rw [List.nodup_append]
  refine ⟨hA, ?_, fun a ha b hb e => ?_⟩
  · rw [List.nodup_append]
    refine ⟨?_, hR, fun a ha b hb e => ?_⟩
    · rw [List.nodup_append]
      refine ⟨hV, ?_, fun a ha b hb e => ?_⟩
      · rw [List.nodup_append]
        exact ⟨hT, hS, fun a ha b hb e => by have := hT1 a ha; have := hl b (List.mem_append_left _ hb); omega⟩
      · subst e
        rcases List.mem_append.1 hb with hb | hb
        · exact (hV1 a ha).2.2.1 hb
        · exact (hV1 a ha).1 hb
    · subst e
      rcases List.mem_append.1 ha with ha | ha
      · exact (hV1 a ha).2.1 hb
      · rcases List.mem_append.1 ha with ha | ha
        · have := hT1 a ha
          have := hl a (List.mem_append_right _ hb)
          omega
        · exact hsr a ha a hb rfl
  · subst e
    rcases List.mem_append.1 hb with hb | hb
    · rcases List.mem_append.1 hb with hb | hb
      · exact (hV1 a hb).2.2.2 ha
      · rcases List.mem_append.1 hb with hb | hb
        · have := hT1 a hb
          have := hA1 a ha
          omega
        · have := hl a (List.mem_append_left _ hb)
          have := hA1 a ha
          omega
    · have := hl a (List.mem_append_right _ hb)
      have := hA1 a ha
      omega
def ISpillPost (w : World) (X : TrX) (e : Ending) (w' : World) : Prop :=
  ∃ Y : TrX, e = .returned (.tuple #[.agg #[Y.vm, Y.vy, Y.vo, .int .i64 Y.seq, Y.vs], .bool (spillO X.tre)]) ∧ Y.tre = spillR X.tre ∧ OwnTree w' w.heap.size Y ∧ Below w.heap.size w w'
theorem implSpill_any (X : TrX) (w : World) (hx : RdTr w X) (hf : FitTr X) (hs : treeOk X.tre = true → CpTr X) :
    Calls Tryz.prog 18 #[.agg #[X.vm, X.vy, X.vo, .int .i64 X.seq, X.vs]] w fun e w' => ISpillPost w X e w' := by
  have HTK : Hid (∀ W, RdTr W X → Calls Tryz.prog 32 #[.agg #[X.vm, X.vy, X.vo, .int .i64 X.seq, X.vs]] W fun e w' => e = .returned (.bool (treeOk X.tre)) ∧ Below W.heap.size W w') := fun W h => implTreeOk_any X W h hf
  have HCP : Hid (treeOk X.tre = true → ∀ W, RdTr W X → Calls Tryz.prog 34 #[.agg #[X.vm, X.vy, X.vo, .int .i64 X.seq, X.vs]] W fun e w' => ToTr W X e w') := fun ht W h => copied_any X W h (hs ht)
  have HBU : Hid (∀ W, RdTr W X → Calls Tryz.prog 47 #[X.vm] W fun e w' => BuiltPost W (builtL X.mem) (builtOk X.mem) e w') := fun W h => implBuilt_any X.vm X.mem W h.mem hf.mem
  clear hs hf
  have t0 := treAt_new w X 33
  obtain ⟨V0, hV0⟩ : ∃ V0, V0 = w.alloc (.cells #[X.vm, X.vy, X.vo, .int .i64 X.seq, X.vs] 33) := ⟨_, rfl⟩
  have b0 : Below w.heap.size w V0 := by rw [hV0]; exact below1 w _
  have s0 : V0.heap.size = w.heap.size + 1 := by rw [hV0]; simp
  rw [← hV0] at t0
  have z1 := boxTr_new V0 (.slice none 0 0) (.slice none 0 0) (.slice none 0 0) (.slice none 0 0) 0
  obtain ⟨W0, hW0⟩ : ∃ W0, W0 = V0.alloc (.cells #[.slice none 0 0, .slice none 0 0, .slice none 0 0, .int .i64 0, .slice none 0 0] 33) := ⟨_, rfl⟩
  have b1 : Below V0.heap.size V0 W0 := by rw [hW0]; exact below1 V0 _
  have s1 : W0.heap.size = w.heap.size + 2 := by rw [hW0]; simp; omega
  rw [← hW0, s0] at z1
  have t1 := t0.below b1
  have bw : Below w.heap.size w W0 := b0.trans (b1.mono (by omega))
  have HW0 : Hid ((w.alloc (.cells #[X.vm, X.vy, X.vo, .int .i64 X.seq, X.vs] 33)).alloc (.cells #[.slice none 0 0, .slice none 0 0, .slice none 0 0, .int .i64 0, .slice none 0 0] 33) = W0) := by unfold Hid; rw [hW0, hV0]
  obtain ⟨q0, q1, q2, q3, q4⟩ := id t1
  rw [hW0, hV0] at q0 q1 q2 q3 q4
  clear t0 b0 b1 s0 hV0 hW0
  go_enter Tryz.func18, Tryz.ntmps18
  go_wp2_with fail
  rw [HW0.out]
  clear q0 q1 q2 q3 q4
  refine (HTK.out _ (hx.below bw)).mono ?_
  rintro e w1 ⟨rfl, hb1⟩
  have t2 := t1.below hb1
  have z2 := z1.on hb1
  have bw1 := bw.trans (hb1.mono bw.size)
  have s2 : w.heap.size + 2 ≤ w1.heap.size := by rw [← s1]; exact hb1.size
  clear t1 z1 bw hb1 s1 HTK HW0
  cases htk : treeOk X.tre with
  | false =>
    obtain ⟨y0, y1, y2, y3, y4, g0, g1, g2, g3, g4⟩ := z2.facts
    have hzF := boxTr_put5 z2 (.slice none 0 0) (.slice none 0 0) (.slice none 0 0) (.slice none 0 0) 0
    obtain ⟨f0, f1, f2, f3, f4, -⟩ := hzF.facts
    have END : Hid (ISpillPost w X (.returned (.tuple #[.agg #[.slice none 0 0, .slice none 0 0, .slice none 0 0, .int .i64 0, .slice none 0 0], .bool false])) (put5 w1 (w.heap.size + 1) (.slice none 0 0) (.slice none 0 0) (.slice none 0 0) (.int .i64 0) (.slice none 0 0))) := by
      refine ⟨⟨.slice none 0 0, .slice none 0 0, .slice none 0 0, .slice none 0 0, [], [], [], 0, []⟩, by unfold spillO; rw [htk]; rfl, by unfold spillR; rw [if_neg (by rw [htk]; simp)]; rfl, ownTree_zero _ _, below_put5 bw1 (by omega)⟩
    unfold put5 at f0 f1 f2 f3 f4
    clear z2 t2 hzF bw1 htk HCP HBU
    go_wp2
    exact bodyPost_ret (v := .tuple #[.agg #[.slice none 0 0, .slice none 0 0, .slice none 0 0, .int .i64 0, .slice none 0 0], .bool false]) (by simp [results, Tryz.results18, go_sem, f0, f1, f2, f3, f4]) rfl END.out
  | true =>
    have hTP := (treeOk_iff X.tre).1 htk
    have HTP : Hid (TreeP X.tre) := hTP
    have HTKE : Hid (treeOk X.tre = true) := htk
    have HCQ := HCP.out htk
    have HCP1 : Hid (∀ W, RdTr W X → Calls Tryz.prog 34 #[.agg #[X.vm, X.vy, X.vo, .int .i64 X.seq, X.vs]] W fun e w' => ToTr W X e w') := HCQ
    clear HCP HCQ hTP htk
    obtain ⟨q0, q1, q2, q3, q4⟩ := id t2
    go_wp2_with fail
    refine (HCP1.out _ (hx.below bw1)).mono ?_
    rintro e w2 ⟨Y, rfl, heY, hoY, hb2⟩
    have t3 := t2.below hb2
    have z3 := z2.on hb2
    have bw2 := bw1.trans (hb2.mono bw1.size)
    have s3 := hb2.size
    have UB : Hid (∀ k ∈ trB Y, w1.heap.size ≤ k ∧ k < w2.heap.size) := fun k hk => hoY.bound hk
    clear q0 q1 q2 q3 q4 t2 z2 hb2 bw1 HCP1
    obtain ⟨am, ay, ao, an, mn, yn, on, nn, cm, cy, co, cn, v0, v1, v2, v3⟩ := hoY.rd.slices
    obtain ⟨vm4, vy4, vo4, vs4, mem4, ys4, os4, seq4, snaps4⟩ := Y
    simp only at v0 v1 v2 v3
    subst v0
    subst v1
    subst v2
    subst v3
    have HEY : Hid (_ = _) := heY
    clear heY
    have zb := boxTr_new w2 (.slice am mn cm) (.slice ay yn cy) (.slice ao on co) (.slice an nn cn) seq4
    have bb := below1 w2 (.cells #[.slice am mn cm, .slice ay yn cy, .slice ao on co, .int .i64 seq4, .slice an nn cn] 33)
    have t4 := t3.below bb
    have z4 := z3.on bb
    have bw3 := bw2.trans (bb.mono bw2.size)
    have hoY3 := hoY.below bb
    have s4 : w2.heap.size < (w2.alloc (.cells #[.slice am mn cm, .slice ay yn cy, .slice ao on co, .int .i64 seq4, .slice an nn cn] 33)).heap.size := by simp
    obtain ⟨q0, q1, q2, q3, q4⟩ := id t4
    clear t3 z3 bb bw2 hoY
    go_wp2_with fail
    generalize w2.alloc (.cells #[.slice am mn cm, .slice ay yn cy, .slice ao on co, .int .i64 seq4, .slice an nn cn] 33) = W3 at zb t4 z4 bw3 hoY3 s4 q0 q1 q2 q3 q4 ⊢
    refine (HBU.out _ (hx.below bw3)).mono ?_
    rintro e w4 ⟨vb, vk, rfl, qI, qK, hb4⟩
    clear q0 q1 q2 q3 q4 HBU
    obtain ⟨ab, cb, heb⟩ := own_sliceT qI
    obtain ⟨ak, ck, hek⟩ := own_sliceT qK
    obtain ⟨TB, hTB⟩ : ∃ TB, TB = builtL X.mem := ⟨_, rfl⟩
    obtain ⟨OKB, hOKB⟩ : ∃ OKB, OKB = builtOk X.mem := ⟨_, rfl⟩
    rw [← hTB] at qI qK heb hek ⊢
    rw [← hOKB]
    have HTB : Hid (TB = builtL X.mem) := hTB
    have HOKB : Hid (OKB = builtOk X.mem) := hOKB
    clear hTB hOKB
    generalize TB.bits.length = bn at heb
    generalize TB.blocks.length = kn at hek
    subst heb
    subst hek
    have HBO : Hid (builtOk X.mem = !decide (X.mem.length = 0)) := by
      have h : okL X.mem = true := HTP.out.mem
      unfold Hid builtOk
      rw [h]
      rfl
    -- THE TABLE'S BOX
    have bb5 := below1 w4 (.cells #[.string TB.first, .string TB.last, .slice ab bn cb, .slice ak kn ck] 72)
    have qB : BoxTb (w4.alloc (.cells #[.string TB.first, .string TB.last, .slice ab bn cb, .slice ak kn ck] 72)) w4.heap.size TB.first TB.last (.slice ab bn cb) (.slice ak kn ck) := heap_alloc_new w4 _
    have z44 := z4.on hb4
    have t44 := t4.below hb4
    have zb44 := zb.on hb4
    have bw44 := bw3.trans (hb4.mono bw3.size)
    have hoY44 := hoY3.below hb4
    have z5 := z44.on bb5
    have t5 := t44.below bb5
    have zb5 := zb44.on bb5
    have bw5 := (bw3.trans (hb4.mono bw3.size)).trans (bb5.mono (bw3.trans (hb4.mono bw3.size)).size)
    have hoY5 := (hoY3.below hb4).below bb5
    have qI5 := qI.below bb5
    have qK5 := qK.below bb5
    have s5 := hb4.size
    have s6 : w4.heap.size < (w4.alloc (.cells #[.string TB.first, .string TB.last, .slice ab bn cb, .slice ak kn ck] 72)).heap.size := by simp
    have U1 : Hid (∀ k ∈ oneB (.slice ab bn cb), W3.heap.size ≤ k ∧ k < w4.heap.size) := fun k hk => World.ownsRow.lt qI k (mem_oneB.1 hk)
    have U2 : Hid (∀ k ∈ oneB (.slice ak kn ck), W3.heap.size ≤ k ∧ k < w4.heap.size) := fun k hk => World.ownsRow.lt qK k (mem_oneB.1 hk)
    have HIK : Hid ((oneB (.slice ab bn cb) ++ oneB (.slice ak kn ck)).Nodup) := List.nodup_append.2 ⟨oneB_nodup _, oneB_nodup _, fun a ha b hb e => by subst e; exact rows_apart qI qK (by decide) a (mem_oneB.1 ha) (mem_oneB.1 hb)⟩
    obtain ⟨W5, hW5⟩ : ∃ W5, W5 = w4.alloc (.cells #[.string TB.first, .string TB.last, .slice ab bn cb, .slice ak kn ck] 72) := ⟨_, rfl⟩
    have HW5 : Hid (w4.alloc (.cells #[.string TB.first, .string TB.last, .slice ab bn cb, .slice ak kn ck] 72) = W5) := hW5.symm
    rw [← hW5] at qB z5 t5 zb5 bw5 hoY5 qI5 qK5 s6
    obtain ⟨ax, cx, hvx, -⟩ := id hx.young
    obtain ⟨xn, hxn⟩ : ∃ xn, xn = X.ys.length := ⟨_, rfl⟩
    rw [← hxn] at hvx
    have HXN : Hid (xn = X.ys.length) := hxn
    obtain ⟨q0, q1, q2, q3, q4⟩ := id t5
    rw [hvx] at q1
    have HVX : Hid (X.vy = .slice ax xn cx) := hvx
    clear hvx hxn bb5 z4 t4 zb bw3 hoY3
    obtain ⟨y0, y1, y2, y3, y4, g0, g1, g2, g3, g4⟩ := zb5.facts
    obtain ⟨m0, m1, m2, m3, m4, n0, n1, n2, n3, n4⟩ := z5.facts
    have ENDF : spillO X.tre = false → Hid (ISpillPost w X (.returned (.tuple #[.agg #[.slice am mn cm, .slice ay yn cy, .slice ao on co, .int .i64 seq4, .slice an nn cn], .bool false])) (put5 W5 (w.heap.size + 1) (.slice am mn cm) (.slice ay yn cy) (.slice ao on co) (.int .i64 seq4) (.slice an nn cn))) := fun h => by
      refine ⟨⟨.slice am mn cm, .slice ay yn cy, .slice ao on co, .slice an nn cn, mem4, ys4, os4, seq4, snaps4⟩, by rw [h], ?_, (hoY5.others (fun e => by have := UB.out _ e; omega)).mono (by omega), below_put5 bw5 (by omega)⟩
      have h2 : spillOk X.tre = false := by unfold spillO at h; rw [HTKE.out] at h; simpa using h
      unfold spillR
      rw [if_pos HTKE.out, h2, if_neg (by simp)]
      exact HEY.out
    have hzF := boxTr_put5 z5 (.slice am mn cm) (.slice ay yn cy) (.slice ao on co) (.slice an nn cn) seq4
    obtain ⟨f0, f1, f2, f3, f4, -⟩ := hzF.facts
    unfold put5 at f0 f1 f2 f3 f4 ENDF
    cases OKB with
    | false =>
      have END := ENDF (by
        have h1 := HOKB.out
        rw [HBO.out] at h1
        have h2 : X.tre.mem.length = 0 := by have : X.mem.length = 0 := by simpa using h1
                                             exact this
        unfold spillO spillOk
        rw [h2]
        simp)
      rw [hW5] at q0 q1 q2 q3 q4 y0 y1 y2 y3 y4 m0 m1 m2 m3 m4 n0 n1 n2 n3 n4 f0 f1 f2 f3 f4 END
      clear ENDF zb5 z5 t5 bw5 hoY5 UB hzF HEY qB qI5 qK5 hW5
      go_wp2
      exact bodyPost_ret (v := .tuple #[.agg #[.slice am mn cm, .slice ay yn cy, .slice ao on co, .int .i64 seq4, .slice an nn cn], .bool false]) (by simp [results, Tryz.results18, go_sem, f0, f1, f2, f3, f4]) rfl END.out
    | true =>
      by_cases hx6 : xn = 6
      · have END := ENDF (by
          unfold spillO spillOk
          rw [show X.tre.young.length = 6 by unfold TrX.tre; simp only [List.length_map]; rw [← HXN.out]; exact hx6]
          simp)
        rw [hW5] at q0 q1 q2 q3 q4 y0 y1 y2 y3 y4 m0 m1 m2 m3 m4 n0 n1 n2 n3 n4 f0 f1 f2 f3 f4 END
        clear ENDF zb5 z5 t5 bw5 hoY5 UB hzF HEY qB qI5 qK5 hW5
        subst hx6
        go_wp2
        exact bodyPost_ret (v := .tuple #[.agg #[.slice am mn cm, .slice ay yn cy, .slice ao on co, .int .i64 seq4, .slice an nn cn], .bool false]) (by simp [results, Tryz.results18, go_sem, f0, f1, f2, f3, f4]) rfl END.out
      have hxi : ((xn : Int) == 6) = false := by simp; omega
      have HTT : Hid (TB = builtT X.mem) := by unfold Hid; rw [HTB.out]; unfold builtL; rw [← HOKB.out, if_pos rfl]
      have hm0 : ¬ X.mem.length = 0 := by
        have h1 := HOKB.out
        rw [HBO.out] at h1
        simpa using h1
      have HSO : Hid (spillO X.tre = true ∧ spillR X.tre = spillT X.tre) := by
        have h1 : spillOk X.tre = true := by
          unfold spillOk
          rw [show X.tre.mem.length = X.mem.length from rfl, decide_eq_true hm0, show X.tre.young.length = xn by unfold TrX.tre; simp only [List.length_map]; exact HXN.out.symm, decide_eq_true hx6]
          rfl
        unfold Hid spillO spillR
        rw [HTKE.out, h1, if_pos rfl, if_pos rfl]
        exact ⟨rfl, rfl⟩
      have hy6 : ys4.length ≤ 6 := by
        have h1 : ys4.map (·.T) = X.tre.young := congrArg Tre.young HEY.out
        have h2 := congrArg List.length h1
        rw [List.length_map] at h2
        have := HTP.out.young
        omega
      clear ENDF zb5 z5 t5 bw5 hoY5 hzF qB qI5 qK5 hW5 HW5 q0 q1 q2 q3 q4 y0 y1 y2 y3 y4 g0 g1 g2 g3 g4 m0 m1 m2 m3 m4 n0 n1 n2 n3 n4 f0 f1 f2 f3 f4 s6 W5 hm0
      obtain ⟨q0, q1, q2, q3, q4⟩ := id t44
      rw [HVX.out] at q1
      obtain ⟨y0, y1, y2, y3, y4, g0, g1, g2, g3, g4⟩ := zb44.facts
      have hol : w2.heap.size < w4.heap.size := by omega
      have htl : w.heap.size < w4.heap.size := by omega
      -- THE WORLD AT THE CALL
      obtain ⟨Wc, hWc⟩ : ∃ Wc, Wc = w4.setCell ⟨w2.heap.size, 0, none⟩ (.slice (some ⟨w4.heap.size + 1, 0, none⟩) 0 0) := ⟨_, rfl⟩
      have sc : Wc.heap.size = w4.heap.size := by rw [hWc]; simp
      have zc : BoxTr Wc w2.heap.size (.slice (some ⟨w4.heap.size + 1, 0, none⟩) 0 0) (.slice ay yn cy) (.slice ao on co) seq4 (.slice an nn cn) := by rw [hWc]; exact boxTr_set0 zb44 _
      have zd : BoxTr Wc (w.heap.size + 1) (.slice none 0 0) (.slice none 0 0) (.slice none 0 0) 0 (.slice none 0 0) := by rw [hWc]; exact boxTr_other z44 (by omega)
      have oc : OwnTree Wc w1.heap.size ⟨.slice am mn cm, .slice ay yn cy, .slice ao on co, .slice an nn cn, mem4, ys4, os4, seq4, snaps4⟩ := by rw [hWc]; exact hoY44.other (fun e => by have := UB.out _ e; omega)
      have bc : Below w.heap.size w Wc := by rw [hWc]; exact bw44.setCell (p := ⟨w2.heap.size, 0, none⟩) (by show w.heap.size ≤ w2.heap.size; omega) _
      have ic : OwnI Wc W3.heap.size (.slice ab bn cb) TB.bits := by rw [hWc]; exact row_base qI s4
      have kc : OwnS Wc W3.heap.size (.slice ak kn ck) TB.blocks := by rw [hWc]; exact row_base qK s4
      have d1 := below1 Wc (.cells #[.string TB.first, .string TB.last, .slice ab bn cb, .slice ak kn ck] 72)
      obtain ⟨Wd, hWd⟩ : ∃ Wd, Wd = Wc.alloc (.cells #[.string TB.first, .string TB.last, .slice ab bn cb, .slice ak kn ck] 72) := ⟨_, rfl⟩
      have sd : Wd.heap.size = w4.heap.size + 1 := by rw [hWd]; simp [sc]
      rw [← hWd] at d1
      have d2 := below1 Wd (.cells #[] 89)
      have om := ownE_new Wd
      obtain ⟨We, hWe⟩ : ∃ We, We = Wd.alloc (.cells #[] 89) := ⟨_, rfl⟩
      have se : We.heap.size = w4.heap.size + 2 := by rw [hWe]; simp [sd]
      rw [← hWe] at d2 om
      rw [sd] at om
      have d3 := below1 We (.cells #[.string TB.first, .string TB.last, .slice ab bn cb, .slice ak kn ck] 72)
      have hh := heap_alloc_new We (.cells #[.string TB.first, .string TB.last, .slice ab bn cb, .slice ak kn ck] 72)
      obtain ⟨X0, hX0⟩ : ∃ X0, X0 = We.alloc (.cells #[.string TB.first, .string TB.last, .slice ab bn cb, .slice ak kn ck] 72) := ⟨_, rfl⟩
      have s0 : X0.heap.size = w4.heap.size + 3 := by rw [hX0]; simp [se]
      rw [← hX0] at d3 hh
      rw [se] at hh
      have zbX := ((zc.on d1).on d2).on d3
      have zrX := ((zd.on d1).on d2).on d3
      have oX := ((oc.below d1).below d2).below d3
      have bX := ((bc.trans (d1.mono bc.size)).trans (d2.mono (by omega))).trans (d3.mono (by omega))
      have iX := ((ic.below d1).below d2).below d3
      have kX := ((kc.below d1).below d2).below d3
      have mX := om.below d3
      have HX0 : Hid ((((w4.setCell ⟨w2.heap.size, 0, none⟩ (.slice (some ⟨w4.heap.size + 1, 0, none⟩) 0 0)).alloc (.cells #[.string TB.first, .string TB.last, .slice ab bn cb, .slice ak kn ck] 72)).alloc (.cells #[] 89)).alloc (.cells #[.string TB.first, .string TB.last, .slice ab bn cb, .slice ak kn ck] 72) = X0) := by unfold Hid; rw [hX0, hWe, hWd, hWc]
      have HIN := insT_any (.slice ay yn cy) w1.heap.size (w4.heap.size + 2) ⟨TB, .slice ab bn cb, .slice ak kn ck⟩ ys4 X0 oX.young hy6 (by omega) hh (fun e => by have := UB.out (w4.heap.size + 2) (List.mem_append_right _ (List.mem_append_left _ (List.mem_append_left _ (mem_oneB.2 e)))); omega) (fun u hu => by simp [TC] at hu; rcases hu with rfl | rfl | rfl | rfl <;> rfl) (TVs_oneCell (w := X0) (fun t ht => ⟨(oX.youngs t ht).1.rd, (oX.youngs t ht).2.rd⟩))
      have HIN1 : Hid (Calls _ _ _ _ _) := HIN
      clear HIN hX0 hWe hWd hWc sc zc zd oc bc ic kc d1 d2 d3 sd se om hh z44 t44 zb44 bw44 hoY44 qI qK Wc Wd We
      go_wp2_with fail
      rw [HX0.out]
      refine HIN1.out.mono ?_
      rintro e w6 ⟨v', rfl, hv', hg, hblk⟩
      clear q0 q1 q2 q3 q4 y0 y1 y2 y3 y4 g0 g1 g2 g3 g4 HIN1 HX0
      obtain ⟨av, cv, hvv⟩ := own_sliceT hv'
      generalize ((⟨TB, .slice ab bn cb, .slice ak kn ck⟩ : TV) :: ys4).length = vn at hvv
      subst hvv
      have hto : Touch (oneB (.slice ay yn cy)) X0 w6 := Touch.of_grown hg (fun k hk => mem_oneB.2 hk)
      have UV : ∀ k ∈ oneB (.slice ay yn cy), w1.heap.size ≤ k ∧ k < w2.heap.size := fun k hk => UB.out k (List.mem_append_right _ (List.mem_append_left _ (List.mem_append_left _ hk)))
      have hnod := oX.nod
      unfold trB at hnod
      simp only at hnod
      obtain ⟨-, hn2, -⟩ := List.nodup_append.1 hnod
      obtain ⟨hn4, hn3, hd2⟩ := List.nodup_append.1 hn2
      obtain ⟨hn5, -, -⟩ := List.nodup_append.1 hn3
      obtain ⟨-, hn6, hd4⟩ := List.nodup_append.1 hn4
      have pO : ∀ k ∈ (oneB (.slice ao on co) ++ tblks os4), k ∉ oneB (.slice ay yn cy) := fun k hk e => hd2 k (List.mem_append_left _ e) k (List.mem_append_left _ hk) rfl
      have pS : ∀ k ∈ oneB (.slice an nn cn), k ∉ oneB (.slice ay yn cy) := fun k hk e => hd2 k (List.mem_append_left _ e) k (List.mem_append_right _ hk) rfl
      have pT : ∀ k ∈ tblks ys4, k ∉ oneB (.slice ay yn cy) := fun k hk e => hd4 k e k hk rfl
      have OO : OwnTs X0 w1.heap.size (.slice ao on co) os4 := ⟨oX.old, oX.olds, hn5⟩
      have O6 := OO.touch hto pO
      have S6 : OwnI w6 w1.heap.size (.slice an nn cn) snaps4 := hto.row oX.snaps (fun k hk => pS k (mem_oneB.2 hk))
      have Y6 : InT w6 w1.heap.size ys4 := fun t ht => ⟨hto.row (oX.youngs t ht).1 (fun k hk => pT k (List.mem_flatMap.2 ⟨t, ht, List.mem_append_left _ (mem_oneB.2 hk)⟩)), hto.row (oX.youngs t ht).2 (fun k hk => pT k (List.mem_flatMap.2 ⟨t, ht, List.mem_append_right _ (mem_oneB.2 hk)⟩))⟩
      have M6 : OwnE w6 (w4.heap.size + 1) (.slice (some ⟨w4.heap.size + 1, 0, none⟩) 0 0) [] := hto.row mX (fun k hk e => by have := UV k e; simp [Value.ownBlock] at hk; omega)
      have I6 : OwnI w6 W3.heap.size (.slice ab bn cb) TB.bits := hto.row iX (fun k hk e => by have := UV k e; have := U1.out k (mem_oneB.2 hk); omega)
      have K6 : OwnS w6 W3.heap.size (.slice ak kn ck) TB.blocks := hto.row kX (fun k hk e => by have := UV k e; have := U2.out k (mem_oneB.2 hk); omega)
      have zb6 : BoxTr w6 w2.heap.size (.slice (some ⟨w4.heap.size + 1, 0, none⟩) 0 0) (.slice ay yn cy) (.slice ao on co) seq4 (.slice an nn cn) := (hto.block _ (by omega) (fun e => by have := UV _ e; omega)).trans zbX
      have zr6 : BoxTr w6 (w.heap.size + 1) (.slice none 0 0) (.slice none 0 0) (.slice none 0 0) 0 (.slice none 0 0) := (hto.block _ (by omega) (fun e => by have := UV _ e; omega)).trans zrX
      have bw6 : Below w.heap.size w w6 := hto.below bX (fun k hk => by have := UV k hk; omega)
      have HVB : Hid (∀ k ∈ oneB (.slice av vn cv), k ∈ oneB (.slice ay yn cy) ∨ k = X0.heap.size) := fun k hk => by
        have hk2 := mem_oneB.1 hk
        rcases hblk with h | h
        · exact .inl (mem_oneB.2 (h ▸ hk2))
        · rw [h] at hk2
          exact .inr (Option.some.inj hk2).symm
      have HNOD : Hid ((trB ⟨(.slice (some ⟨w4.heap.size + 1, 0, none⟩) 0 0), .slice av vn cv, .slice ao on co, .slice an nn cn, [], ⟨TB, .slice ab bn cb, .slice ak kn ck⟩ :: ys4, os4, seq4, snaps4⟩).Nodup) := by
        have e1 : tblks ((⟨TB, .slice ab bn cb, .slice ak kn ck⟩ : TV) :: ys4) = (oneB (.slice ab bn cb) ++ oneB (.slice ak kn ck)) ++ tblks ys4 := by simp [tblks]
        have hl : ∀ k ∈ tblks ys4 ++ ((oneB (.slice ao on co) ++ tblks os4) ++ oneB (.slice an nn cn)), k < w2.heap.size := fun k hk => by
          rcases List.mem_append.1 hk with hk | hk
          · exact (UB.out k (List.mem_append_right _ (List.mem_append_left _ (List.mem_append_right _ hk)))).2
          · exact (UB.out k (List.mem_append_right _ (List.mem_append_right _ hk))).2
        have hNEW : ∀ k ∈ oneB (.slice (some ⟨w4.heap.size + 1, 0, none⟩) 0 0), k = w4.heap.size + 1 := fun k hk => by have := mem_oneB.1 hk; simp [Value.ownBlock] at this; exact this.symm
        have hT : ∀ k ∈ oneB (.slice ab bn cb) ++ oneB (.slice ak kn ck), W3.heap.size ≤ k ∧ k < w4.heap.size := fun k hk => by
          rcases List.mem_append.1 hk with hk | hk
          · exact U1.out k hk
          · exact U2.out k hk
        unfold trB
        simp only
        rw [e1]
        refine nod_spill (L := w2.heap.size) (M := w4.heap.size) (oneB_nodup _) (oneB_nodup _) HIK.out ?_ hl (fun k hk => by have := hT k hk; omega) (fun k hk => by have := hNEW k hk; omega) (fun k hk => ?_)
        · rw [List.nodup_append]
          exact ⟨hn6, hn3, fun a ha b hb e => hd2 a (List.mem_append_right _ ha) b hb e⟩
        · rcases HVB.out k hk with h | h
          · have := UV k h
            refine ⟨fun e => pT k e h, fun e => ?_, fun e => by have := hT k e; omega, fun e => by have := hNEW k e; omega⟩
            rcases List.mem_append.1 e with e | e
            · exact pO k e h
            · exact pS k e h
          · refine ⟨fun e => by have := hl k (List.mem_append_left _ e); omega, fun e => by have := hl k (List.mem_append_right _ e); omega, fun e => by have := hT k e; omega, fun e => by have := hNEW k e; omega⟩
      -- THE LAST STORES
      have hvo : ∀ k, (Value.slice av vn cv).ownBlock = some k → w2.heap.size ≠ k := fun k hk e => by
        rcases HVB.out k (mem_oneB.2 hk) with h | h
        · have := UV k h
          omega
        · omega
      have zb7 := boxTr_set1 zb6 (.slice av vn cv)
      have zr7 : BoxTr (w6.setCell ⟨w2.heap.size, 1, none⟩ (.slice av vn cv)) (w.heap.size + 1) (.slice none 0 0) (.slice none 0 0) (.slice none 0 0) 0 (.slice none 0 0) := boxTr_other zr6 (by omega)
      have bw7 : Below w.heap.size w (w6.setCell ⟨w2.heap.size, 1, none⟩ (.slice av vn cv)) := bw6.setCell (p := ⟨w2.heap.size, 1, none⟩) (by show w.heap.size ≤ w2.heap.size; omega) _
      have V7 : OwnT (w6.setCell ⟨w2.heap.size, 1, none⟩ (.slice av vn cv)) w1.heap.size (.slice av vn cv) (⟨TB, .slice ab bn cb, .slice ak kn ck⟩ :: ys4) := row_set hv' hvo
      have O7 : OwnT (w6.setCell ⟨w2.heap.size, 1, none⟩ (.slice av vn cv)) w1.heap.size (.slice ao on co) os4 := row_set O6.row (fun k hk e => by have := UB.out k (List.mem_append_right _ (List.mem_append_right _ (List.mem_append_left _ (List.mem_append_left _ (mem_oneB.2 hk))))); omega)
      have UT : ∀ {ts : List TV}, (∀ k ∈ tblks ts, k < w2.heap.size) → InT w6 w1.heap.size ts → InT (w6.setCell ⟨w2.heap.size, 1, none⟩ (.slice av vn cv)) w1.heap.size ts := fun hts h t ht => ⟨row_set (h t ht).1 (fun k hk e => by have := hts k (List.mem_flatMap.2 ⟨t, ht, List.mem_append_left _ (mem_oneB.2 hk)⟩); omega), row_set (h t ht).2 (fun k hk e => by have := hts k (List.mem_flatMap.2 ⟨t, ht, List.mem_append_right _ (mem_oneB.2 hk)⟩); omega)⟩
      have OI7 := UT (fun k hk => (UB.out k (List.mem_append_right _ (List.mem_append_right _ (List.mem_append_left _ (List.mem_append_right _ hk))))).2) O6.ins
      have YI7 := UT (fun k hk => (UB.out k (List.mem_append_right _ (List.mem_append_left _ (List.mem_append_right _ hk)))).2) Y6
      have S7 : OwnI (w6.setCell ⟨w2.heap.size, 1, none⟩ (.slice av vn cv)) w1.heap.size (.slice an nn cn) snaps4 := row_set S6 (fun k hk e => by have := UB.out k (List.mem_append_right _ (List.mem_append_right _ (List.mem_append_right _ (mem_oneB.2 hk)))); omega)
      have M7 : OwnE (w6.setCell ⟨w2.heap.size, 1, none⟩ (.slice av vn cv)) (w4.heap.size + 1) (.slice (some ⟨w4.heap.size + 1, 0, none⟩) 0 0) [] := row_base M6 (by omega)
      have I7 : OwnI (w6.setCell ⟨w2.heap.size, 1, none⟩ (.slice av vn cv)) W3.heap.size (.slice ab bn cb) TB.bits := row_base I6 s4
      have K7 : OwnS (w6.setCell ⟨w2.heap.size, 1, none⟩ (.slice av vn cv)) W3.heap.size (.slice ak kn ck) TB.blocks := row_base K6 s4
      have hc1 : w.heap.size + 1 < w1.heap.size := by omega
      have END : Hid (ISpillPost w X (.returned (.tuple #[.agg #[(.slice (some ⟨w4.heap.size + 1, 0, none⟩) 0 0), .slice av vn cv, .slice ao on co, .int .i64 seq4, .slice an nn cn], .bool true])) (put5 (w6.setCell ⟨w2.heap.size, 1, none⟩ (.slice av vn cv)) (w.heap.size + 1) (.slice (some ⟨w4.heap.size + 1, 0, none⟩) 0 0) (.slice av vn cv) (.slice ao on co) (.int .i64 seq4) (.slice an nn cn))) := by
        refine ⟨⟨(.slice (some ⟨w4.heap.size + 1, 0, none⟩) 0 0), .slice av vn cv, .slice ao on co, .slice an nn cn, [], ⟨TB, .slice ab bn cb, .slice ak kn ck⟩ :: ys4, os4, seq4, snaps4⟩, by rw [HSO.out.1], ?_, ⟨OwnE.mono (row_put5 M7 (by omega)) (by omega), OwnT.mono (row_put5 V7 hc1) (by omega), fun t ht => ?_, OwnT.mono (row_put5 O7 hc1) (by omega), InT.mono (OI7.put5 hc1) (by omega), OwnI.mono (row_put5 S7 hc1) (by omega), HNOD.out⟩, below_put5 bw7 (by omega)⟩
        · have h1 : ys4.map (·.T) = X.tre.young := congrArg Tre.young HEY.out
          have h2 : os4.map (·.T) = X.tre.old := congrArg Tre.old HEY.out
          have h3 : seq4 = X.tre.seq := congrArg Tre.seq HEY.out
          have h4 : snaps4 = X.tre.snaps := congrArg Tre.snaps HEY.out
          rw [HSO.out.2]
          unfold TrX.tre
          simp only [List.map_cons]
          rw [h1, h2, h3, h4, HTT.out]
          rfl
        · rcases List.mem_cons.1 ht with rfl | ht
          · exact ⟨OwnI.mono (row_put5 I7 (by omega)) (by omega), OwnS.mono (row_put5 K7 (by omega)) (by omega)⟩
          · exact ⟨OwnI.mono (row_put5 (YI7 t ht).1 hc1) (by omega), OwnS.mono (row_put5 (YI7 t ht).2 hc1) (by omega)⟩
      obtain ⟨y0, y1, y2, y3, y4, g0, g1, g2, g3, g4⟩ := zb6.facts
      obtain ⟨k0, k1, k2, k3, k4, l0, l1, l2, l3, l4⟩ := zb7.facts
      obtain ⟨m0, m1, m2, m3, m4, n0, n1, n2, n3, n4⟩ := zr7.facts
      have hzF := boxTr_put5 zr7 (.slice (some ⟨w4.heap.size + 1, 0, none⟩) 0 0) (.slice av vn cv) (.slice ao on co) (.slice an nn cn) seq4
      obtain ⟨f0, f1, f2, f3, f4, -⟩ := hzF.facts
      unfold put5 at f0 f1 f2 f3 f4 END
      clear hzF zb6 zr6 bw6 zb7 zr7 bw7 V7 O7 UT OI7 YI7 S7 M7 I7 K7 HNOD HVB hvo hto UV hnod hn2 hn3 hn4 hn5 hn6 hd2 hd4 pO pS pT OO O6 S6 Y6 M6 I6 K6 HSO HEY HTT UB U1 U2 HIK hv' hg hblk oX bX zbX zrX iX kX mX
      go_wp2
      exact bodyPost_ret (v := .tuple #[.agg #[(.slice (some ⟨w4.heap.size + 1, 0, none⟩) 0 0), .slice av vn cv, .slice ao on co, .int .i64 seq4, .slice an nn cn], .bool true]) (by simp [results, Tryz.results18, go_sem, f0, f1, f2, f3, f4]) rfl END.out
end Go.Proofs.YtbefmbjlogkmbaaGreat
