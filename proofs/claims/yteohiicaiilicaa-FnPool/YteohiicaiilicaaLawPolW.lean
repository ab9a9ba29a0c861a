/- The walk of FnPool: the pool tells its offers in order, each once, and what is offered is told. -/
-- UNF Gen
import Derived.Test.YteohiicaiilicaaOffDrw
import Derived.Test.YteohiicaiilicaaOffLik
import Derived.Test.YteohiicaiilicaaOffSpk
namespace Go.Proofs.Yteohiicaiilicaa
open Go.RowKit
/-- Where the walk stands: rows of Offers, rows of texts, boxes of Offers, all of which can be read. -/
structure OQ (w W : World) (ol : List (Value × List Off)) (tl : List (Value × List ByteArray)) (bl : List (Nat × Off)) : Prop where
  bel : Below w.heap.size w W
  ro : ∀ i ∈ ol, RdO W i.1 i.2
  rt : ∀ i ∈ tl, RdS W i.1 i.2
  bx : ∀ i ∈ bl, OffAt W i.1 0 i.2
theorem OQ.start (w : World) : OQ w w [] [] [] := ⟨Below.refl _ _, (fun i hi => by cases hi), (fun i hi => by cases hi), (fun i hi => by cases hi)⟩
theorem OQ.below {w W W' : World} {ol : List (Value × List Off)} {tl : List (Value × List ByteArray)} {bl : List (Nat × Off)} (h : OQ w W ol tl bl) (hb : Below W.heap.size W W') : OQ w W' ol tl bl :=
  ⟨h.bel.trans (hb.mono h.bel.size), fun i hi => (h.ro i hi).below hb, fun i hi => (h.rt i hi).below hb, fun i hi => (h.bx i hi).below hb⟩
theorem OQ.putO {w W : World} {ol : List (Value × List Off)} {tl : List (Value × List ByteArray)} {bl : List (Nat × Off)} (h : OQ w W ol tl bl) {v : Value} {es : List Off} (hr : RdO W v es) : OQ w W ((v, es) :: ol) tl bl :=
  ⟨h.bel, fun i hi => by rcases List.mem_cons.1 hi with rfl | hi; exact hr; exact h.ro i hi, h.rt, h.bx⟩
theorem OQ.putT {w W : World} {ol : List (Value × List Off)} {tl : List (Value × List ByteArray)} {bl : List (Nat × Off)} (h : OQ w W ol tl bl) {v : Value} {ss : List ByteArray} (hr : RdS W v ss) : OQ w W ol ((v, ss) :: tl) bl :=
  ⟨h.bel, h.ro, fun i hi => by rcases List.mem_cons.1 hi with rfl | hi; exact hr; exact h.rt i hi, h.bx⟩
theorem OQ.putB {w W : World} {ol : List (Value × List Off)} {tl : List (Value × List ByteArray)} {bl : List (Nat × Off)} (h : OQ w W ol tl bl) {b : Nat} {x : Off} (hr : OffAt W b 0 x) : OQ w W ol tl ((b, x) :: bl) :=
  ⟨h.bel, h.ro, h.rt, fun i hi => by rcases List.mem_cons.1 hi with rfl | hi; exact hr; exact h.bx i hi⟩
theorem offR_len (es : List Off) (o : Off) : (offR es o).length ≤ 50 := by
  unfold offR
  split
  · rename_i h
    unfold offO at h
    simp only [Bool.and_eq_true] at h
    have h1 := (poolOk_iff.1 h.1.1).1
    have h2 : ¬ es.length = 50 := by simpa using h.2
    rw [offL_len]
    omega
  · simp
theorem rdO_len {w : World} {a : Option Addr} {n c : Nat} {es : List Off} (h : RdO w (.slice a n c) es) : es.length = n ∧ n ≤ c ∧ c ≤ maxLen := by
  obtain ⟨a', c', e, h1, h2, -⟩ := h
  simp only [Value.slice.injEq] at e
  obtain ⟨rfl, rfl, rfl⟩ := e
  exact ⟨rfl, h1, h2⟩
theorem poolP_txt {es : List Off} (h : PoolP es) : ∀ e ∈ es, e.text.size ≤ maxLen := fun e he => by
  have := (poolP_iff.1 h).2.1 e he
  unfold okO at this
  simp only [Bool.and_eq_true, decide_eq_true_eq] at this
  unfold maxLen
  omega
/-- Is it this Offer? -/
def eqO (x e : Off) : Bool := decide (e.fee = x.fee) && decide (e.text.toList = x.text.toList)
/-- A row that can be read: it lay there at world W, or it is the call's own from number M on. -/
def QAt (W wr : World) (M : Nat) (v : Value) (es : List Off) : Prop := (∃ a n cap c0, v = .slice a n cap ∧ n ≤ cap ∧ cap ≤ c0 ∧ OwnO wr M (.slice a n c0) es) ∨ RdO W v es
theorem QAt.rd {W wr : World} {M : Nat} {v : Value} {es : List Off} (h : QAt W wr M v es) (hb : Below W.heap.size W wr) : RdO wr v es := by
  rcases h with ⟨a, n, cap, c0, rfl, h1, h2, h3⟩ | h
  · exact h3.rd.narrow h1 h2
  · exact h.below hb
theorem box2O_at {W : World} {b : Nat} {o : Off} (h : W.heap[b]? = some (.cells #[.int .i64 o.fee, .string o.text] 26 (0, 0))) : OffAt W b 0 o := ⟨(box2O h).1, (box2O h).2.1⟩
set_option maxHeartbeats 16000000 in
set_option maxRecDepth 100000 in
theorem lawPool14 (v : Value) (bs : List UInt8) (w : World) (hr : Rd w v bs) :
    Calls Try.prog 3 #[v] w fun e w' => e = .returned (.bool true) ∧ Below w.heap.size w w' := by
  by_cases hbig : 4096 < (bs.length : Int)
  · have hd : decide (4096 < (bs.length : Int)) = true := decide_eq_true hbig
    have HB : Hid (Calls Try.prog 8 #[v] w fun e w' => e = .returned (.bool true) ∧ w' = w) := by rw [← hd]; exact bigO_any v bs w hr
    clear hd hbig
    go_enter Try.func3, Try.ntmps3
    go_wp2_with fail
    refine HB.out.mono ?_
    rintro e w1 ⟨rfl, hw⟩
    subst hw
    go_wp2
    go_ret
    exact ⟨rfl, Below.refl _ _⟩
  have hd : decide (4096 < (bs.length : Int)) = false := decide_eq_false hbig
  have HB : Hid (Calls Try.prog 8 #[v] w fun e w' => e = .returned (.bool false) ∧ w' = w) := by rw [← hd]; exact bigO_any v bs w hr
  clear hd
  go_enter Try.func3, Try.ntmps3
  go_wp2_with fail
  refine HB.out.mono ?_
  rintro e w1 ⟨rfl, hw⟩
  obtain rfl : w = w1 := hw.symm
  clear hw
  have Q : OQ w w [] [] [] := OQ.start w
  go_wp2_with fail
  refine (drawOffered_any _ bs _ hr (by omega)).mono ?_
  rintro e w1 ⟨l, ls, x, rfl, hol, hll, hlt, hxt, hb⟩
  have hs1 := hb.size
  replace Q := Q.below hb
  replace Q := Q.putO (hol.rd)
  have HLT : Hid (∀ x ∈ ls, x.text.size ≤ maxLen) := fun x hx => by have := hlt x hx; unfold maxLen; omega
  have hxm : x.text.size ≤ maxLen := by unfold maxLen; omega
  clear hlt hol
  replace Q := (Q.below (below1 w1 (.cells #[.int .i64 x.fee, .string x.text] 26))).putB (offAt_new w1 x 26)
  obtain ⟨p0, p1⟩ := Q.bx (w1.heap.size, x) (by simp)
  have p2 : World.cell? _ ⟨w1.heap.size, 1, none⟩ = some (Value.string x.text) := p1
  change World.cell? _ ⟨w1.heap.size, 0, none⟩ = some (.int .i64 x.fee) at p0
  go_wp2_with fail
  refine (implOffered_any l ls x _ (Q.ro (l, ls) (by simp)) HLT.out hxm).mono ?_
  rintro e w2 ⟨xv, rfl, hox, hb⟩
  have hs2 := hb.size
  replace Q := Q.below hb
  clear p0 p1 p2
  obtain ⟨is, his⟩ : ∃ is, is = offO ls x := ⟨_, rfl⟩
  obtain ⟨xs, hxs⟩ : ∃ xs, xs = offR ls x := ⟨_, rfl⟩
  rw [← his]
  rw [← hxs] at hox
  have HIS : Hid (is = offO ls x) := his
  have HXS : Hid (xs = offR ls x) := hxs
  have HSO : Hid (∀ W, RdO W l ls → Calls Try.prog 15 #[l, .agg #[.int .i64 x.fee, .string x.text]] W fun e w'' => ∃ u, e = .returned (.tuple #[u, .bool is]) ∧ OwnO w'' W.heap.size u xs ∧ Below W.heap.size W w'') := fun W h => by rw [his, hxs]; exact specOffered_any l ls x W h HLT.out hxm
  have hxl : xs.length ≤ 50 := by rw [hxs]; exact offR_len ls x
  clear his hxs
  replace Q := Q.putO (hox.rd)
  clear hox
  go_wp2_with fail
  refine (drawNext_any _ bs _ (hr.below Q.bel) (by omega)).mono ?_
  rintro e w3 ⟨pv, ps, rfl, hop, hpl, hpt, hb⟩
  have hs3 := hb.size
  replace Q := Q.below hb
  replace Q := Q.putO (hop.rd)
  have HPT : Hid (∀ x ∈ ps, x.text.size ≤ maxLen) := fun x hx => by have := hpt x hx; unfold maxLen; omega
  clear hpt hop
  obtain ⟨th, hth⟩ : ∃ th, th = nxtO ps := ⟨_, rfl⟩
  obtain ⟨f, hf⟩ : ∃ f, f = nxtF ps := ⟨_, rfl⟩
  obtain ⟨rs, hrs⟩ : ∃ rs, rs = nxtR ps := ⟨_, rfl⟩
  have HIN : Hid (∀ W, RdO W pv ps → Calls Try.prog 12 #[pv] W fun e w'' => ∃ a n cap c0, e = .returned (.tuple #[.agg #[.int .i64 f.fee, .string f.text], .slice a n cap, .bool th]) ∧ n ≤ cap ∧ cap ≤ c0 ∧ OwnO w'' W.heap.size (.slice a n c0) rs ∧ Below W.heap.size W w'') := fun W h => by rw [hth, hf, hrs]; exact implNext_any pv ps W h HPT.out
  have HSN : Hid (∀ W, RdO W pv ps → Calls Try.prog 21 #[pv] W fun e w'' => ∃ a n cap c0, e = .returned (.tuple #[.agg #[.int .i64 f.fee, .string f.text], .slice a n cap, .bool th]) ∧ n ≤ cap ∧ cap ≤ c0 ∧ OwnO w'' W.heap.size (.slice a n c0) rs ∧ Below W.heap.size W w'') := fun W h => by rw [hth, hf, hrs]; exact specNext_any pv ps W h HPT.out
  clear hth hf hrs
  go_wp2_with fail
  refine (HIN.out _ (Q.ro (pv, ps) (by simp))).mono ?_
  rintro e w4 ⟨ra, rn, rk, rc, rfl, r1, r2, hor, hb⟩
  have hs4 := hb.size
  replace Q := Q.below hb
  replace Q := Q.putO (hor.rd.narrow r1 r2)
  clear hor
  replace Q := (Q.below (below1 w4 (.cells #[.int .i64 f.fee, .string f.text] 26))).putB (offAt_new w4 f 26)
  go_wp2_with fail
  refine (drawChosen_any _ bs _ (hr.below Q.bel) (by omega)).mono ?_
  rintro e w5 ⟨cv, cs, nn, rfl, hoc, hcl, hct, hn0, hn1, hb⟩
  have hs5 := hb.size
  replace Q := Q.below hb
  replace Q := Q.putO (hoc.rd)
  have HCT : Hid (∀ x ∈ cs, x.text.size ≤ maxLen) := fun x hx => by have := hct x hx; unfold maxLen; omega
  clear hct hoc
  obtain ⟨ts, hts⟩ : ∃ ts, ts = choR cs nn := ⟨_, rfl⟩
  have HIC : Hid (∀ W, RdO W cv cs → Calls Try.prog 14 #[cv, .int .i64 nn] W fun e w'' => ∃ u, e = .returned u ∧ OwnS w'' W.heap.size u ts ∧ Below W.heap.size W w'') := fun W h => by rw [hts]; exact implChosen_any cv cs nn W h HCT.out
  have HSC : Hid (∀ W, RdO W cv cs → Calls Try.prog 20 #[cv, .int .i64 nn] W fun e w'' => ∃ u, e = .returned u ∧ OwnS w'' W.heap.size u ts ∧ Below W.heap.size W w'') := fun W h => by rw [hts]; exact specChosen_any cv cs nn W h HCT.out (by omega) (by omega)
  clear hts hn0 hn1
  go_wp2_with fail
  refine (HIC.out _ (Q.ro (cv, cs) (by simp))).mono ?_
  rintro e w6 ⟨tv, rfl, hot, hb⟩
  have hs6 := hb.size
  replace Q := Q.below hb
  replace Q := Q.putT (hot.rd)
  clear hot
  obtain ⟨p0, p1⟩ := Q.bx (w1.heap.size, x) (by simp)
  have p2 : World.cell? _ ⟨w1.heap.size, 1, none⟩ = some (Value.string x.text) := p1
  change World.cell? _ ⟨w1.heap.size, 0, none⟩ = some (.int .i64 x.fee) at p0
  go_wp2_with fail
  refine (HSO.out _ (Q.ro (l, ls) (by simp))).mono ?_
  rintro e w7 ⟨yv, rfl, hoy, hb⟩
  have hs7 := hb.size
  replace Q := Q.below hb
  clear p0 p1 p2
  replace Q := Q.putO (hoy.rd)
  clear hoy
  have hne : (is != is) = false := by simp
  have hne2 : (th != th) = false := by simp
  go_wp2_with fail
  refine (likeOffZ _ _ xs _ (Q.ro (xv, xs) (by simp)) (Q.ro (yv, xs) (by simp))).mono ?_
  rintro e w8 ⟨rfl, hb⟩
  have hs8 := hb.size
  replace Q := Q.below hb
  obtain ⟨pk, hpk⟩ : ∃ pk, pk = poolOk ps := ⟨_, rfl⟩
  have HIP : Hid (∀ W, RdO W pv ps → Calls Try.prog 17 #[pv] W fun e w' => e = .returned (.bool pk) ∧ Below W.heap.size W w') := fun W h => by rw [hpk]; exact implPoolOk_any pv ps W h HPT.out
  have HSP : Hid (∀ W, RdO W pv ps → Calls Try.prog 18 #[pv] W fun e w' => e = .returned (.bool pk) ∧ Below W.heap.size W w') := fun W h => by rw [hpk]; exact specPoolOk_any pv ps W h HPT.out
  have hne3 : (pk != pk) = false := by simp
  clear hpk
  go_wp2_with fail
  refine (HIP.out _ (Q.ro (pv, ps) (by simp))).mono ?_
  rintro e w9 ⟨rfl, hb⟩
  have hs9 := hb.size
  replace Q := Q.below hb
  go_wp2_with fail
  refine (HSP.out _ (Q.ro (pv, ps) (by simp))).mono ?_
  rintro e w10 ⟨rfl, hb⟩
  have hs10 := hb.size
  replace Q := Q.below hb
  go_wp2_with fail
  refine (HSC.out _ (Q.ro (cv, cs) (by simp))).mono ?_
  rintro e w11 ⟨tw, rfl, hot, hb⟩
  have hs11 := hb.size
  replace Q := Q.below hb
  replace Q := Q.putT (hot.rd)
  clear hot
  go_wp2_with fail
  refine (likeTxtZ _ _ ts _ (Q.rt (tv, ts) (by simp)) (Q.rt (tw, ts) (by simp))).mono ?_
  rintro e w12 ⟨rfl, hb⟩
  have hs12 := hb.size
  replace Q := Q.below hb
  go_wp2_with fail
  refine (HSN.out _ (Q.ro (pv, ps) (by simp))).mono ?_
  rintro e w13 ⟨sa, sn, sk, sc, rfl, s1, s2, hos, hb⟩
  have hs13 := hb.size
  replace Q := Q.below hb
  replace Q := Q.putO (hos.rd.narrow s1 s2)
  clear hos
  replace Q := (Q.below (below1 w13 (.cells #[.int .i64 f.fee, .string f.text] 26))).putB (offAt_new w13 f 26)
  obtain ⟨p0, p1⟩ := Q.bx (w13.heap.size, f) (by simp)
  have p2 : World.cell? _ ⟨w13.heap.size, 1, none⟩ = some (Value.string f.text) := p1
  change World.cell? _ ⟨w13.heap.size, 0, none⟩ = some (.int .i64 f.fee) at p0
  obtain ⟨p0b, p1b⟩ := Q.bx (w4.heap.size, f) (by simp)
  have p2b : World.cell? _ ⟨w4.heap.size, 1, none⟩ = some (Value.string f.text) := p1b
  change World.cell? _ ⟨w4.heap.size, 0, none⟩ = some (.int .i64 f.fee) at p0b
  have hff : (f.fee != f.fee) = false := by simp
  go_wp2_with fail
  refine (likeOffZ _ _ rs _ (Q.ro (.slice ra rn rk, rs) (by simp)) (Q.ro (.slice sa sn sk, rs) (by simp))).mono ?_
  rintro e w14 ⟨rfl, hb⟩
  have hs14 := hb.size
  replace Q := Q.below hb
  clear p0 p1 p2 p0b p1b p2b
  obtain ⟨xa, xn, xc, rfl⟩ := rdO_slice (Q.ro (xv, xs) (by simp))
  obtain ⟨la, lk, lc, rfl⟩ := rdO_slice (Q.ro (l, ls) (by simp))
  obtain ⟨hxn, hxc, hxm2⟩ : xs.length = xn ∧ xn ≤ xc ∧ xc ≤ maxLen := rdO_len (Q.ro (.slice xa xn xc, xs) (by simp))
  obtain ⟨hlk, hlc, hlm⟩ : ls.length = lk ∧ lk ≤ lc ∧ lc ≤ maxLen := rdO_len (Q.ro (.slice la lk lc, ls) (by simp))
  unfold maxLen at hxm2 hlm
  have HXN : Hid (xs.length = xn) := hxn
  have HLK : Hid (ls.length = lk) := hlk
  have hxn50 : xn ≤ 50 := by omega
  have hlk51 : lk ≤ 51 := by omega
  clear hxn hlk hxl hll hr HB hbig HIN HSN HIC HSC HIP HSP HSO hne hne2 hne3 hff hpl hcl HPT HCT hxt hxm r1 r2 s1 s2
  cases is with
  | false =>
    have hx0 : xn = 0 := by
      have h := HXS.out
      unfold offR at h
      rw [← HIS.out] at h
      have h2 := HXN.out
      rw [h] at h2
      simpa using h2.symm
    subst hx0
    have HE := Q.bel
    clear Q
    go_wp2
    go_ret
    exact ⟨rfl, HE⟩
  | true =>
    have hoo : poolOk ls = true ∧ okO x = true ∧ ls.length ≠ 50 := by
      have h := HIS.out.symm
      unfold offO at h
      simp only [Bool.and_eq_true] at h
      exact ⟨h.1.1, h.1.2, by simpa using h.2⟩
    have hxs : xs = offL ls x := by rw [HXS.out]; unfold offR; rw [if_pos HIS.out.symm]
    have HXP : Hid (PoolP xs) := by
      have h := poolOk_iff.1 hoo.1
      rw [hxs]
      exact poolP_off h hoo.2.1 (by have := h.1; have := hoo.2.2; omega)
    have hxk : xn = lk + 1 := by rw [← HXN.out, hxs, offL_len, HLK.out]
    have HCT : Hid (xs.countP (eqO x) = ls.countP (eqO x) + 1) := by unfold Hid; rw [hxs, offL_count]; simp [eqO]
    subst hxk
    clear hoo hxs
    have HNP : Hid (∀ qv qs W, PoolP qs → RdO W qv qs → Calls Try.prog 17 #[qv] W fun e w' => e = .returned (.bool true) ∧ Below W.heap.size W w') := fun qv qs W h1 h2 => by rw [← poolOk_iff.2 h1]; exact implPoolOk_any qv qs W h2 (poolP_txt h1)
    have HNX : Hid (∀ qv qs W, PoolP qs → qs.length ≠ 0 → RdO W qv qs → Calls Try.prog 12 #[qv] W fun e w'' => ∃ a n cap c0, e = .returned (.tuple #[.agg #[.int .i64 (nthO qs 0).fee, .string (nthO qs 0).text], .slice a n cap, .bool true]) ∧ n ≤ cap ∧ cap ≤ c0 ∧ OwnO w'' W.heap.size (.slice a n c0) (nxtL qs) ∧ Below W.heap.size W w'') := fun qv qs W h1 h2 h3 => by
      have h := implNext_any qv qs W h3 (poolP_txt h1)
      have hn : nxtO qs = true := by unfold nxtO; rw [poolOk_iff.2 h1]; simp; exact fun e => h2 (by rw [e]; rfl)
      unfold NxtRes nxtF nxtR at h
      rw [hn] at h
      exact h
    have hlw : IntKind.i64.wrap ((lk : Int) + 1) = (lk : Int) + 1 := by rw [IntKind.wrap_i64]; omega
    have hnn : (((lk : Int) + 1) != ((lk : Int) + 1)) = false := by simp
    go_wp2_with fail
    refine (HNP.out _ xs _ HXP.out (Q.ro (.slice xa (lk + 1) xc, xs) (by simp))).mono ?_
    rintro e w15 ⟨rfl, hb⟩
    replace Q := Q.below hb
    have hrx := Q.ro (.slice xa (lk + 1) xc, xs) (by simp)
    have hrl := Q.ro (.slice la lk lc, ls) (by simp)
    have hb4 := Q.bx (w1.heap.size, x) (by simp)
    have bw := Q.bel
    obtain ⟨A4, hA4⟩ : ∃ A, A = w1.heap.size := ⟨_, rfl⟩
    simp only at hrx hrl hb4
    rw [← hA4] at hb4 ⊢
    clear hA4 hb Q
    have hl0 := hb4.lt
    have b19 := below1 w15 (.cells #[.int .i64 1000000001, .string ⟨#[]⟩] 26)
    have x19 := alloc_at w15 (.cells #[.int .i64 1000000001, .string ⟨#[]⟩] 26)
    go_wp2
    go_loopw [20, 21, 22] (fun sv qv kv wr => ∃ (sn k : Nat) (qs : List Off) (ld : Off), sv = .int .i64 (sn : Int) ∧ kv = .int .i64 (k : Int) ∧ Hid (k + qs.length = lk + 1) ∧ sn ≤ k ∧ QAt w15 wr (w15.heap.size + 1) qv qs ∧ Hid (PoolP qs) ∧ Hid (∀ e ∈ qs, ahO e ld = false) ∧ Hid (sn + qs.countP (eqO x) = xs.countP (eqO x)) ∧ wr.heap[w15.heap.size]? = some (.cells #[.int .i64 ld.fee, .string ld.text] 26 (0, 0)) ∧ Below w15.heap.size w15 wr ∧ w15.heap.size < wr.heap.size) (fun _ _ kv _ => lk + 1 - (intOf kv).toNat)
    case atStart => exact ⟨0, 0, xs, ⟨1000000001, ⟨#[]⟩⟩, rfl, rfl, (by unfold Hid; rw [HXN.out]; omega), Nat.le_refl _, .inr hrx, HXP, (fun e he => by
      have h := (poolP_iff.1 HXP.out).2.1 e he
      unfold okO at h
      simp only [Bool.and_eq_true, decide_eq_true_eq] at h
      cases ha : ahO e ⟨1000000001, ⟨#[]⟩⟩ with
      | false => rfl
      | true =>
        rw [ahO_iff] at ha
        rcases ha with ha | ⟨ha, -⟩
        · have : (1000000001 : Int) < e.fee := ha
          omega
        · have : e.fee = (1000000001 : Int) := ha
          omega), (by unfold Hid; omega), x19, b19, by simp⟩
    case round =>
      clear b19 x19 hrx
      obtain ⟨sn, k, qs, ld, rfl, rfl, HKQ, hsk, hq, HP, HB, HC, hbx, hbl, hblt⟩ := hrel
      have hrq := hq.rd hbl
      obtain ⟨qa, qn, qc, rfl⟩ := rdO_slice hrq
      obtain ⟨hqn, hqc, hqm⟩ := rdO_len hrq
      unfold maxLen at hqm
      have HQN : Hid (qs.length = qn) := hqn
      clear hqn
      by_cases hk : k < lk + 1
      · obtain ⟨m, hm⟩ : ∃ m, qn = m + 1 := ⟨qn - 1, by have := HKQ.out; have := HQN.out; omega⟩
        subst hm
        have hki : (k : Int) < (lk : Int) + 1 := by omega
        have hkw : IntKind.i64.wrap ((k : Int) + 1) = (k : Int) + 1 := by rw [IntKind.wrap_i64]; omega
        go_wp2_with fail
        refine (HNX.out _ qs _ HP.out (by have := HQN.out; omega) hrq).mono ?_
        rintro e w16 ⟨ra2, rn2, rk2, rc2, rfl, r3, r4, hor, hb⟩
        obtain ⟨y, hy⟩ : ∃ y, y = nthO qs 0 := ⟨_, rfl⟩
        have HY : Hid (y = nthO qs 0) := hy
        rw [← hy]
        clear hy hq hrq
        have hrn : rn2 = m := by have h := (ownO_shape hor).1; rw [h, nxtL_len, HQN.out]; rfl
        subst hrn
        have hw16 : w15.heap.size < w16.heap.size := Nat.lt_of_lt_of_le hblt hb.size
        have bb := hbl.trans (hb.mono hbl.size)
        have hbx6 := (hb.block _ hblt).trans hbx
        have hor6 := hor.mono (show w15.heap.size + 1 ≤ wr.heap.size by omega)
        have ba := below1 w16 (.cells #[.int .i64 y.fee, .string y.text] 26)
        have yb := alloc_at w16 (.cells #[.int .i64 y.fee, .string y.text] 26)
        have hbx7 := (ba.block _ hw16).trans hbx6
        have hor7 := hor6.below ba
        have bb7 := bb.trans (ba.mono bb.size)
        clear hb hbl hbx hor hor6 hbx6 bb
        go_wp2_with fail
        refine (HNP.out _ (nxtL qs) _ (poolP_nxt HP.out HQN.out) (hor7.rd.narrow r3 r4)).mono ?_
        rintro e w17 ⟨rfl, hb⟩
        have hY16 : w16.heap.size < w17.heap.size := Nat.lt_of_lt_of_le (by simp) hb.size
        have yb8 := (hb.block _ (by simp)).trans yb
        have hbx8 := (hb.block _ (by simp; omega)).trans hbx7
        have hor8 := hor7.below hb
        have bb8 := bb7.trans (hb.mono bb7.size)
        have hb48 := hb4.below bb8
        clear hb ba yb hbx7 hor7 bb7
        obtain ⟨y0, y1, -, -⟩ := box2O yb8
        obtain ⟨l0, l1, f0, f1⟩ := box2O hbx8
        obtain ⟨o0, o1⟩ := id hb48
        have o1' : w17.cell? ⟨A4, 1, none⟩ = some (.string x.text) := o1
        have hah : ahO y ld = false := by
          have h := HB.out (nthO qs 0) (by rw [nthO_eq (by have := HQN.out; omega)]; exact List.getElem_mem _)
          rw [← HY.out] at h
          exact h
        have hgt : ¬ ld.fee < y.fee := fun h => by rw [(ahO_iff y ld).2 (.inl h)] at hah; cases hah
        have hwm : IntKind.i64.wrap (rn2 : Int) = (rn2 : Int) := by rw [IntKind.wrap_i64]; have := HKQ.out; have := HQN.out; omega
        have hmm : ((rn2 : Int) != (rn2 : Int)) = false := by simp
        have hgd : decide (ld.fee < y.fee) = false := decide_eq_false hgt
        have HKL : Hid (y.fee = ld.fee → Op.bytesLess y.text.toList ld.text.toList = true → False) := fun e h => by rw [(ahO_iff y ld).2 (.inr ⟨e, h⟩)] at hah; cases hah
        have hA4n : ¬ A4 = w15.heap.size := by omega
        have hA4m : ¬ w15.heap.size = A4 := by omega
        have hYn : ¬ w16.heap.size = w15.heap.size := by omega
        have hYm : ¬ w15.heap.size = w16.heap.size := by omega
        have HR : Hid (∀ F : Int, F = y.fee → OwnO ((w17.setCell ⟨w15.heap.size, 0, none⟩ (.int .i64 F)).setCell ⟨w15.heap.size, 1, none⟩ (.string y.text)) (w15.heap.size + 1) (.slice ra2 rn2 rc2) (nxtL qs) ∧ ((w17.setCell ⟨w15.heap.size, 0, none⟩ (.int .i64 F)).setCell ⟨w15.heap.size, 1, none⟩ (.string y.text)).heap[w15.heap.size]? = some (.cells #[.int .i64 y.fee, .string y.text] 26 (0, 0)) ∧ Below w15.heap.size w15 ((w17.setCell ⟨w15.heap.size, 0, none⟩ (.int .i64 F)).setCell ⟨w15.heap.size, 1, none⟩ (.string y.text)) ∧ w15.heap.size < ((w17.setCell ⟨w15.heap.size, 0, none⟩ (.int .i64 F)).setCell ⟨w15.heap.size, 1, none⟩ (.string y.text)).heap.size) := fun F hF => by
          subst hF
          refine ⟨ownO_put2 hor8 (Nat.lt_succ_self _), put2O hbx8, (bb8.setCell (Nat.le_refl _) _).setCell (Nat.le_refl _) _, ?_⟩
          simp; omega
        have HP2 : Hid (PoolP (nxtL qs)) := poolP_nxt HP.out HQN.out
        have HB2 : Hid (∀ e ∈ nxtL qs, ahO e y = false) := by rw [HY.out]; exact nxtL_behind HP.out HQN.out
        have HK2 : Hid (k + 1 + (nxtL qs).length = lk + 1) := by unfold Hid; rw [nxtL_len]; have := HKQ.out; have := HQN.out; omega
        have HC2 : Hid (∀ s' : Nat, s' = sn + (if eqO x y = true then 1 else 0) → s' + (nxtL qs).countP (eqO x) = xs.countP (eqO x)) := fun s' hs' => by
          have h1 := nxtL_count (eqO x) HQN.out
          rw [← HY.out] at h1
          have h2 := HC.out
          omega
        have hsw : IntKind.i64.wrap ((sn : Int) + 1) = (sn : Int) + 1 := by rw [IntKind.wrap_i64]; omega
        clear hor8 hbx8 bb8 yb8 hb48 hah o1 HP HB HC HKQ
        by_cases hfe : y.fee = ld.fee
        · have hfb : (y.fee == ld.fee) = true := beq_iff_eq.2 hfe
          have hfd : decide (y.fee = ld.fee) = true := decide_eq_true hfe
          have hkl : Op.bytesLess y.text.toList ld.text.toList = false := by
            cases h : Op.bytesLess y.text.toList ld.text.toList with
            | false => rfl
            | true => exact absurd (HKL.out hfe h) (by simp)
          by_cases hA : y.fee = x.fee
          · by_cases hT : y.text.toList = x.text.toList
            · have hkl2 : Op.bytesLess x.text.toList ld.text.toList = false := by rw [← hT]; exact hkl
              have HEQ : Hid (eqO x y = true) := by unfold Hid eqO; rw [decide_eq_true hA, decide_eq_true hT]; rfl
              go_wp2
              go_roundw
              case rel => exact ⟨sn + 1, k + 1, nxtL qs, y, by go_num, by go_num, HK2, by omega, .inl ⟨_, _, _, _, rfl, r3, r4, (HR.out _ (by first | rfl | omega)).1⟩, HP2, HB2, HC2.out _ (by rw [HEQ.out]; rfl), (HR.out _ (by first | rfl | omega)).2.1, (HR.out _ (by first | rfl | omega)).2.2.1, (HR.out _ (by first | rfl | omega)).2.2.2⟩
              case measure => simp [intOf]; omega
            · have HEQ : Hid (eqO x y = false) := by unfold Hid eqO; rw [decide_eq_false hT]; simp
              go_wp2
              go_roundw
              case rel => exact ⟨sn, k + 1, nxtL qs, y, by go_num, by go_num, HK2, by omega, .inl ⟨_, _, _, _, rfl, r3, r4, (HR.out _ (by first | rfl | omega)).1⟩, HP2, HB2, HC2.out _ (by rw [HEQ.out]; rfl), (HR.out _ (by first | rfl | omega)).2.1, (HR.out _ (by first | rfl | omega)).2.2.1, (HR.out _ (by first | rfl | omega)).2.2.2⟩
              case measure => simp [intOf]; omega
          · have HEQ : Hid (eqO x y = false) := by unfold Hid eqO; rw [decide_eq_false hA]; simp
            go_wp2
            go_roundw
            case rel => exact ⟨sn, k + 1, nxtL qs, y, by go_num, by go_num, HK2, by omega, .inl ⟨_, _, _, _, rfl, r3, r4, (HR.out _ (by first | rfl | omega)).1⟩, HP2, HB2, HC2.out _ (by rw [HEQ.out]; rfl), (HR.out _ (by first | rfl | omega)).2.1, (HR.out _ (by first | rfl | omega)).2.2.1, (HR.out _ (by first | rfl | omega)).2.2.2⟩
            case measure => simp [intOf]; omega
        · have hfb : (y.fee == ld.fee) = false := beq_false_of_ne hfe
          have hfd : decide (y.fee = ld.fee) = false := decide_eq_false hfe
          by_cases hA : y.fee = x.fee
          · by_cases hT : y.text.toList = x.text.toList
            · have HEQ : Hid (eqO x y = true) := by unfold Hid eqO; rw [decide_eq_true hA, decide_eq_true hT]; rfl
              go_wp2
              go_roundw
              case rel => exact ⟨sn + 1, k + 1, nxtL qs, y, by go_num, by go_num, HK2, by omega, .inl ⟨_, _, _, _, rfl, r3, r4, (HR.out _ (by first | rfl | omega)).1⟩, HP2, HB2, HC2.out _ (by rw [HEQ.out]; rfl), (HR.out _ (by first | rfl | omega)).2.1, (HR.out _ (by first | rfl | omega)).2.2.1, (HR.out _ (by first | rfl | omega)).2.2.2⟩
              case measure => simp [intOf]; omega
            · have HEQ : Hid (eqO x y = false) := by unfold Hid eqO; rw [decide_eq_false hT]; simp
              go_wp2
              go_roundw
              case rel => exact ⟨sn, k + 1, nxtL qs, y, by go_num, by go_num, HK2, by omega, .inl ⟨_, _, _, _, rfl, r3, r4, (HR.out _ (by first | rfl | omega)).1⟩, HP2, HB2, HC2.out _ (by rw [HEQ.out]; rfl), (HR.out _ (by first | rfl | omega)).2.1, (HR.out _ (by first | rfl | omega)).2.2.1, (HR.out _ (by first | rfl | omega)).2.2.2⟩
              case measure => simp [intOf]; omega
          · have HEQ : Hid (eqO x y = false) := by unfold Hid eqO; rw [decide_eq_false hA]; simp
            go_wp2
            go_roundw
            case rel => exact ⟨sn, k + 1, nxtL qs, y, by go_num, by go_num, HK2, by omega, .inl ⟨_, _, _, _, rfl, r3, r4, (HR.out _ (by first | rfl | omega)).1⟩, HP2, HB2, HC2.out _ (by rw [HEQ.out]; rfl), (HR.out _ (by first | rfl | omega)).2.1, (HR.out _ (by first | rfl | omega)).2.2.1, (HR.out _ (by first | rfl | omega)).2.2.2⟩
            case measure => simp [intOf]; omega
      · have hke : k = lk + 1 := by have := HKQ.out; omega
        have hq0 : qn = 0 := by have := HKQ.out; have := HQN.out; omega
        have HSN : Hid (sn = ls.countP (eqO x) + 1) := by
          have h := HC.out
          have h0 : qs = [] := List.length_eq_zero_iff.1 (HQN.out.trans hq0)
          rw [h0, HCT.out] at h
          have h3 : sn = ls.countP (eqO x) + 1 := by simpa using h
          exact h3
        subst hq0
        subst hke
        have hsn52 : sn ≤ 52 := by omega
        clear hq hrq HP HB HC HKQ hbx hk
        go_wp2
        go_loopw [26, 27] (fun hv iv w2 => ∃ (h i : Nat), hv = .int .i64 (h : Int) ∧ iv = .int .i64 (i : Int) ∧ i ≤ lk ∧ h ≤ i ∧ Hid (h = (ls.take i).countP (eqO x)) ∧ Below w15.heap.size w15 w2) (fun _ iv _ => lk - (intOf iv).toNat)
        case atStart => exact ⟨0, 0, rfl, rfl, Nat.zero_le _, Nat.le_refl _, rfl, hbl⟩
        case round =>
          rename_i w2
          clear hbl
          obtain ⟨h, i, rfl, rfl, hil, hhi, HH, hb2⟩ := hrel
          by_cases hlt : i < lk
          · obtain ⟨c1, c2, rfl, hc⟩ := (hrl.below hb2).at HLK.out.symm i (by have := HLK.out; omega)
            obtain ⟨y, hy⟩ : ∃ y, y = nthO ls i := ⟨_, rfl⟩
            have HH2 : Hid (∀ s' : Nat, s' = h + (if eqO x y = true then 1 else 0) → s' = (ls.take (i + 1)).countP (eqO x)) := fun s' hs' => by
              have hl2 : i < ls.length := by have := HLK.out; omega
              rw [List.take_succ_eq_append_getElem hl2, List.countP_append, List.countP_singleton, ← HH.out, ← nthO_eq hl2, ← hy]
              exact hs'
            rw [← hy] at hc
            have hb48 := hb4.below hb2
            have hili : (i : Int) < (lk : Int) := by omega
            have hic : i < lc := by omega
            have hiw : IntKind.i64.wrap ((i : Int) + 1) = (i : Int) + 1 := by rw [IntKind.wrap_i64]; omega
            have hhw : IntKind.i64.wrap ((h : Int) + 1) = (h : Int) + 1 := by rw [IntKind.wrap_i64]; omega
            clear hy
            by_cases hA : y.fee = x.fee
            · by_cases hT : y.text.toList = x.text.toList
              · have HEQ : Hid (eqO x y = true) := by unfold Hid eqO; rw [decide_eq_true hA, decide_eq_true hT]; rfl
                go_wp2_with fail
                refine wp_region_noPanic ?_
                refine wp_region_held_drew (S := fun w' => (w'.cell? ⟨c1, c2 + i * 2, none⟩ = some (.int .i64 y.fee) ∧ w'.cell? ⟨c1, c2 + i * 2 + 1, none⟩ = some (.string y.text)) ∧ (w'.cell? ⟨A4, 0, none⟩ = some (.int .i64 x.fee) ∧ w'.cell? ⟨A4, 0 + 1, none⟩ = some (.string x.text))) (by kernel_rfl) ⟨hc, hb48⟩ (fun hH => ?_)
                refine tkG 0 189 hH ?_
                try simp only [Act.put, List.setIfInBounds_toArray, List.set_cons_zero, List.set_cons_succ]
                refine tkG 1 190 hH ?_
                try simp only [Act.put, List.setIfInBounds_toArray, List.set_cons_zero, List.set_cons_succ]
                refine tkG 2 191 hH ?_
                try simp only [Act.put, List.setIfInBounds_toArray, List.set_cons_zero, List.set_cons_succ]
                refine tkG 3 192 hH ?_
                try simp only [Act.put, List.setIfInBounds_toArray, List.set_cons_zero, List.set_cons_succ]
                refine tkG 4 193 hH ?_
                try simp only [Act.put, List.setIfInBounds_toArray, List.set_cons_zero, List.set_cons_succ]
                refine tkG 5 194 hH ?_
                try simp only [Act.put, List.setIfInBounds_toArray, List.set_cons_zero, List.set_cons_succ]
                refine wpAnyH_done (by kernel_rfl) ?_ _
                refine NoPanic.normal ?_
                clear hH
                go_wp2
                go_roundw
                case rel => exact ⟨h + 1, i + 1, by go_num, by go_num, by omega, by omega, HH2.out _ (by rw [HEQ.out]; rfl), hb2.drew⟩
                case measure => simp [intOf]; omega
              · have HEQ : Hid (eqO x y = false) := by unfold Hid eqO; rw [decide_eq_false hT]; simp
                go_wp2_with fail
                refine wp_region_noPanic ?_
                refine wp_region_held_drew (S := fun w' => (w'.cell? ⟨c1, c2 + i * 2, none⟩ = some (.int .i64 y.fee) ∧ w'.cell? ⟨c1, c2 + i * 2 + 1, none⟩ = some (.string y.text)) ∧ (w'.cell? ⟨A4, 0, none⟩ = some (.int .i64 x.fee) ∧ w'.cell? ⟨A4, 0 + 1, none⟩ = some (.string x.text))) (by kernel_rfl) ⟨hc, hb48⟩ (fun hH => ?_)
                refine tkG 0 189 hH ?_
                try simp only [Act.put, List.setIfInBounds_toArray, List.set_cons_zero, List.set_cons_succ]
                refine tkG 1 190 hH ?_
                try simp only [Act.put, List.setIfInBounds_toArray, List.set_cons_zero, List.set_cons_succ]
                refine tkG 2 191 hH ?_
                try simp only [Act.put, List.setIfInBounds_toArray, List.set_cons_zero, List.set_cons_succ]
                refine tkG 3 192 hH ?_
                try simp only [Act.put, List.setIfInBounds_toArray, List.set_cons_zero, List.set_cons_succ]
                refine tkG 4 193 hH ?_
                try simp only [Act.put, List.setIfInBounds_toArray, List.set_cons_zero, List.set_cons_succ]
                refine tkG 5 194 hH ?_
                try simp only [Act.put, List.setIfInBounds_toArray, List.set_cons_zero, List.set_cons_succ]
                refine wpAnyH_done (by kernel_rfl) ?_ _
                refine NoPanic.normal ?_
                clear hH
                go_wp2
                go_roundw
                case rel => exact ⟨h, i + 1, by go_num, by go_num, by omega, by omega, HH2.out _ (by rw [HEQ.out]; rfl), hb2.drew⟩
                case measure => simp [intOf]; omega
            · have HEQ : Hid (eqO x y = false) := by unfold Hid eqO; rw [decide_eq_false hA]; simp
              go_wp2_with fail
              refine wp_region_noPanic ?_
              refine wp_region_held_drew (S := fun w' => (w'.cell? ⟨c1, c2 + i * 2, none⟩ = some (.int .i64 y.fee) ∧ w'.cell? ⟨c1, c2 + i * 2 + 1, none⟩ = some (.string y.text)) ∧ (w'.cell? ⟨A4, 0, none⟩ = some (.int .i64 x.fee) ∧ w'.cell? ⟨A4, 0 + 1, none⟩ = some (.string x.text))) (by kernel_rfl) ⟨hc, hb48⟩ (fun hH => ?_)
              refine tkG 0 189 hH ?_
              try simp only [Act.put, List.setIfInBounds_toArray, List.set_cons_zero, List.set_cons_succ]
              refine tkG 1 190 hH ?_
              try simp only [Act.put, List.setIfInBounds_toArray, List.set_cons_zero, List.set_cons_succ]
              refine tkG 2 191 hH ?_
              try simp only [Act.put, List.setIfInBounds_toArray, List.set_cons_zero, List.set_cons_succ]
              refine tkG 3 192 hH ?_
              try simp only [Act.put, List.setIfInBounds_toArray, List.set_cons_zero, List.set_cons_succ]
              refine tkG 4 193 hH ?_
              try simp only [Act.put, List.setIfInBounds_toArray, List.set_cons_zero, List.set_cons_succ]
              refine tkG 5 194 hH ?_
              try simp only [Act.put, List.setIfInBounds_toArray, List.set_cons_zero, List.set_cons_succ]
              refine wpAnyH_done (by kernel_rfl) ?_ _
              refine NoPanic.normal ?_
              clear hH
              go_wp2
              go_roundw
              case rel => exact ⟨h, i + 1, by go_num, by go_num, by omega, by omega, HH2.out _ (by rw [HEQ.out]; rfl), hb2.drew⟩
              case measure => simp [intOf]; omega
          · have hie : i = lk := by omega
            subst hie
            have hsn : sn = h + 1 := by
              have h1 := HH.out
              rw [List.take_of_length_le (by have := HLK.out; omega)] at h1
              have := HSN.out
              omega
            subst hsn
            have hee : (((h + 1 : Nat) : Int) == (h : Int) + 1) = true := by simp
            have hec : ((h + 1 : Nat) : Int) = (h : Int) + 1 := by omega
            have hhw : IntKind.i64.wrap ((h : Int) + 1) = (h : Int) + 1 := by rw [IntKind.wrap_i64]; omega
            have HE := bw.trans (hb2.mono bw.size)
            clear hb2 hrl hb4 bw
            go_wp2
            go_ret
            exact ⟨rfl, HE⟩
end Go.Proofs.Yteohiicaiilicaa
