/- The contract of the program's Shown. -/
import Derived.Test.YtihacdfchmobpaaEntJoin
import Derived.Test.YtihacdfchmobpaaEntIsSeen
import Derived.Test.YtihacdfchmobpaaEntSpecShown
import Derived.Test.YtihacdfchmobpaaEntImplSeen
namespace Go.Proofs.Ytihacdfchmobpaa
open Go.RowKit
theorem cut_at (v : Value) (es : List Ent) (i j : Nat) (x y : Int) (w : World) (hx : x = (i : Int)) (hy : y = (j : Int)) (hr : RdE w v es) (hij : i ≤ j) (hj : j ≤ es.length) :
    Calls Try.prog 50 #[v, .int .i64 x, .int .i64 y] w fun e w' => ∃ u, e = .returned u ∧ (∀ W, RdE W v es → RdE W u ((es.take j).drop i)) ∧ w' = w := by
  subst hx; subst hy; exact cut_any v es i j w hr hij hj
theorem cut_one (es : List Ent) (k : Nat) (h : k < es.length) : (es.take (k + 1)).drop k = [nth es k] := by
  rw [List.take_succ_eq_append_getElem h, List.drop_append, List.drop_eq_nil_of_le (by rw [List.length_take]; omega), List.length_take, Nat.min_eq_left (by omega), Nat.sub_self, List.drop_zero, List.nil_append, nth_eq h]
/-- A row of pieces of the call's own. -/
def OwnP (w : World) (base : Nat) (v : Value) (ps : List (Value × List Ent)) : Prop := w.ownsRow base 26 1 v ps.length (ps.map (·.1))
theorem OwnP.pieces {w : World} {base : Nat} {v : Value} {ps : List (Value × List Ent)} (h : OwnP w base v ps) (hp : ∀ p ∈ ps, RdE w p.1 p.2) : Pieces w v ps := by
  have h' := h
  rcases h.2 with ⟨rfl, h0⟩ | ⟨g, cap, cur, rfl, hb, hg, hn, hc, hs, ht⟩
  · exact .inl ⟨rfl, List.length_eq_zero_iff.1 h0⟩
  · refine .inr ⟨g, 0, cap, rfl, hn, hc, fun i hi => ⟨?_, hp _ (List.getElem_mem hi)⟩⟩
    have := World.ownsRow.cellAt h' i (by omega)
    rw [Nat.zero_add, this]
    simp [hi]
theorem OwnP.below {w w' : World} {base : Nat} {v : Value} {ps : List (Value × List Ent)} (h : OwnP w base v ps) (hb : Below w.heap.size w w') : OwnP w' base v ps := own_below h hb
theorem OwnP.mono {w : World} {base base' : Nat} {v : Value} {ps : List (Value × List Ent)} (h : OwnP w base v ps) (hb : base' ≤ base) : OwnP w base' v ps := by
  refine ⟨h.1, ?_⟩
  rcases h.2 with h2 | ⟨g, cap, cur, hv, hg, r⟩
  · exact .inl h2
  · exact .inr ⟨g, cap, cur, hv, Nat.le_trans hb hg, r⟩
theorem ownP_none (w : World) : OwnP (w.alloc (.cells #[] 26)) w.heap.size (.slice (some ⟨w.heap.size, 0, none⟩) 0 0) [] := World.ownsRow_lit w #[] 0 (Nat.le_refl _) (Nat.zero_le _) rfl
theorem ownP_push {w1 : World} {B : Nat} {v' : Value} {ps : List (Value × List Ent)} {u : Value} {zs : List Ent} (h : w1.ownsRow B 26 1 v' (ps.length + 1) (ps.map (·.1) ++ [u])) : OwnP w1 B v' (ps ++ [(u, zs)]) := by
  unfold OwnP
  rw [List.map_append, List.length_append]
  exact h
theorem one_newP (w : World) (x : Value) (t : TypeId) : ∀ j u, [x][j]? = some u → (w.alloc (.cells #[x] t)).cell? ((⟨w.heap.size, 0, none⟩ : Addr).add j) = some u := by
  intro j u hj
  match j, hj with
  | 0, hj => simp at hj; subst hj; simp [Addr.add]
theorem one_new_at (w : World) (x : Value) (t : TypeId) (n : Nat) (hn : n = w.heap.size) : ∀ j u, [x][j]? = some u → (w.alloc (.cells #[x] t)).cell? ((⟨n, 0, none⟩ : Addr).add j) = some u := by
  subst hn; exact one_newP w x t
theorem isSeen_at (v : Value) (es : List Ent) (i : Nat) (q : Int) (s : Bool) (w : World) (hr : RdE w v es) (hi : i < es.length) (hs : isShown es q i = s) :
    Calls Try.prog 47 #[v, .int .i64 i, .int .i64 q] w fun e w' => e = .returned (.bool s) ∧ ∃ n, w' = w.drewN n := by
  subst hs; exact isSeen_any v es i q w hr hi
theorem joinE_push (ps : List (Value × List Ent)) (u : Value) (zs : List Ent) : joinE (ps ++ [(u, zs)]) = joinE ps ++ zs := by simp [joinE]
set_option maxHeartbeats 4000000 in
set_option maxRecDepth 100000 in
theorem implShown_any (v : Value) (es : List Ent) (q : Int) (w : World) (hr : RdE w v es) (hf : ∀ e ∈ es, Fits e) :
    Calls Try.prog 22 #[v, .int .i64 q] w fun e w' => RowPost w (shownL es q) e w' := by
  obtain ⟨a, cap, hv, hl, hm, _⟩ := id hr
  unfold maxLen at hm
  subst hv
  cases hok : okL es with
  | false =>
    have RES : Hid (shownL es q = []) := by unfold Hid shownL; simp [hok]
    go_enter Try.func22, Try.ntmps22
    go_wp2_with fail
    refine (implOk_no _ es _ hr hf hok).mono ?_
    rintro e w1 ⟨rfl, hb1⟩
    go_wp2
    go_ret
    refine ⟨_, rfl, ?_, hb1.alloc hb1.size _⟩
    rw [RES.out]
    exact (ownE_none w1).mono hb1.size
  | true =>
    have hlen := okL_len hok
    have RES : Hid (shownL es q = shTo es q es.length) := by unfold Hid shownL; simp [hok]
    obtain ⟨i0, hi, hz0, hz1, hz2⟩ := info_parts Try.info26
    go_enter Try.func22, Try.ntmps22
    go_wp2_with fail
    refine (implOk_yes _ es _ hr hf hok).mono ?_
    rintro e w1 ⟨rfl, hb1⟩
    have hp1 := (ownP_none w1)
    have b1 := hb1.alloc hb1.size (.cells #[] 26)
    have hs1 := hb1.size
    clear hb1
    go_wp2
    go_loopw [5, 15] (fun o i wr => ∃ (k : Nat) (ps : List (Value × List Ent)), k ≤ es.length ∧ i = .int .i64 k ∧ ps.length ≤ k ∧ OwnP wr w.heap.size o ps ∧ Hid (∀ p ∈ ps, RdE w p.1 p.2) ∧ Hid (joinE ps = shTo es q k) ∧ Below w.heap.size w wr) (fun _ i _ => es.length - (intOf i).toNat)
    case atStart => exact ⟨0, [], Nat.zero_le _, rfl, Nat.le_refl _, hp1.mono hs1, (fun p hp => by cases hp), rfl, b1⟩
    case round =>
      obtain ⟨k, ps, hk, rfl, hpk, ho, HP, HJ, hb⟩ := hrel
      clear hp1 b1
      have hrw := hr.below hb
      by_cases hlt : k < es.length
      · obtain ⟨b, off, rfl, hc⟩ := hrw.at rfl k hlt
        obtain ⟨x, hx⟩ : ∃ x, x = nth es k := ⟨_, rfl⟩
        rw [← hx] at hc
        have HX : Hid (x = nth es k) := hx
        clear hx
        obtain ⟨c0, c1, c2, c3⟩ := hc
        have hra := hrw.below (below1 wr (.cells #[.string x.key, .string x.val, .int .i64 x.seq, .bool x.gone] 32))
        have hoa := ho.below (below1 wr (.cells #[.string x.key, .string x.val, .int .i64 x.seq, .bool x.gone] 32))
        have bza := hb.alloc hb.size (.cells #[.string x.key, .string x.val, .int .i64 x.seq, .bool x.gone] 32)
        cases hsh : isShown es q k with
        | false =>
          have HJ2 : Hid (joinE ps = shTo es q (k + 1)) := by unfold Hid; rw [shTo_no (by unfold shAt; rw [hsh]; rfl)]; exact HJ.out
          go_wp2_with fail
          refine (isSeen_at _ es k q false _ hra hlt hsh).mono ?_
          rintro e w2 ⟨rfl, n2, rfl⟩
          go_wp2
          go_roundw
          case rel => exact ⟨k + 1, ps, by omega, by go_num, by omega, hoa, HP, HJ2, belowN bza n2⟩
          case measure => simp [intOf]; omega
        | true =>
          cases hgn : x.gone with
          | true =>
            have HJ2 : Hid (joinE ps = shTo es q (k + 1)) := by unfold Hid; rw [shTo_no (by unfold shAt; rw [← HX.out, hgn]; simp)]; exact HJ.out
            rw [hgn] at c3 hra hoa bza
            go_wp2_with fail
            refine (isSeen_at _ es k q true _ hra hlt hsh).mono ?_
            rintro e w2 ⟨rfl, n2, rfl⟩
            go_wp2
            go_roundw
            case rel => exact ⟨k + 1, ps, by omega, by go_num, by omega, hoa, HP, HJ2, belowN bza n2⟩
            case measure => simp [intOf]; omega
          | false =>
            have hsa : shAt es q k = true := by unfold shAt; rw [hsh, ← HX.out, hgn]; rfl
            have HS : Hid (shTo es q (k + 1) = joinE ps ++ [x]) := by unfold Hid; rw [shTo_yes hsa, HJ.out, ← HX.out]
            clear hsa
            rw [hgn] at c3 hra hoa bza
            go_wp2_with fail
            refine (isSeen_at _ es k q true _ hra hlt hsh).mono ?_
            rintro e w2 ⟨rfl, n2, rfl⟩
            go_wp2_with fail
            refine (cut_at _ es k (k + 1) _ _ _ rfl (by omega) (hra.drewN n2) (by omega) (by omega)).mono ?_
            rintro e w3 ⟨u, rfl, hu, rfl⟩
            have hu1 := hu w hr
            rw [cut_one es k hlt, ← HX.out] at hu1
            have HP2 : Hid (∀ p ∈ ps ++ [(u, [x])], RdE w p.1 p.2) := by
              intro p hp
              rcases List.mem_append.1 hp with h | h
              · exact HP.out p h
              · simp at h; subst h; exact hu1
            obtain ⟨aa, cc, hua, _⟩ := id hu1
            have hua2 : u = .slice aa 1 cc := hua
            subst hua2
            have hs := bza.size
            simp at hs
            clear hu hu1 hua
            go_wp2_with (at_builtin; (refine wpList_append_own _ rfl _ _ 24 rfl w.heap.size 26 i0 (.slice none 0 0) 1 24 Try.underlying24 hi hz0 hz1 hz2 rfl (by decide) _ _ _ rfl (World.ownsRow.alloc hoa _) ⟨wr.heap.size + 1, 0, none⟩ 1 1 [.slice aa 1 cc] rfl rfl ?c1 ?c2 ?c3 ?c4 ?c5 ?_))
            case c1 => exact one_new_at _ _ _ _ (by simp)
            case c2 => intro z hz; simp at hz; subst hz; rfl
            case c3 => unfold maxLen; omega
            case c4 => omega
            case c5 => simp; omega
            intro v2 w2 ho2 hg2 _
            have R1 : OwnP w2 w.heap.size v2 (ps ++ [(.slice aa 1 cc, [x])]) := ownP_push ho2
            have bz2 : Below w.heap.size w w2 := ((belowN bza n2).alloc (by simp; omega) _).grown hg2 (by simp; omega) (fun k hk => (World.ownsRow.lt ho k hk).1)
            have HJ2 : Hid (joinE (ps ++ [(.slice aa 1 cc, [x])]) = shTo es q (k + 1)) := by unfold Hid; rw [joinE_push, HS.out]
            have hpl : (ps ++ [(Value.slice aa 1 cc, [x])]).length ≤ k + 1 := by rw [List.length_append]; simp; omega
            clear ho ho2 hg2 hb hoa bza hra HS HJ HP
            go_wp2
            go_roundw
            case rel => exact ⟨k + 1, _, by omega, by go_num, hpl, R1, HP2, HJ2, bz2⟩
            case measure => simp [intOf]; omega
      · skip
        have hke : k = es.length := by omega
        have HJ2 : Hid (joinE ps = shTo es q es.length) := by rw [← hke]; exact HJ
        clear hke
        have hsl := shTo_len es q es.length
        have hjl : (joinE ps).length ≤ 1000000 := by rw [HJ2.out]; omega
        go_wp2_with fail
        refine (joined_any _ ps _ (ho.pieces (fun p hp => (HP.out p hp).below hb)) hjl (by omega)).mono ?_
        rintro e w3 ⟨u, rfl, ho3, hb3⟩
        go_wp2
        go_ret
        refine ⟨_, rfl, ?_, hb.trans (hb3.mono hb.size)⟩
        rw [RES.out, ← HJ2.out]
        exact ho3.mono hb.size
end Go.Proofs.Ytihacdfchmobpaa
