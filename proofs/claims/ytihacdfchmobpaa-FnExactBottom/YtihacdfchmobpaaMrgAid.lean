/- What the laws of merging need beside: numbers as an argument, marks of numbers at a number that is given as a sum. -/
import Derived.Test.YtihacdfchmobpaaNumHelp
import Derived.Test.YtihacdfchmobpaaEntMark
import Derived.Test.YtihacdfchmobpaaEntOpen
import Derived.Test.YtihacdfchmobpaaEntCp
import Derived.OpenShut
import Derived.ChangeArms
namespace Go.Proofs.Ytihacdfchmobpaa
open Go.RowKit Go.ChangeShapes Go.WideShapes
theorem heldSzM {es : List Ent} (h : ∀ e ∈ es, Held e) : ∀ x ∈ es, x.key.size ≤ maxLen ∧ x.val.size ≤ maxLen := fun x hx => ⟨(h x hx).1, (h x hx).2.1⟩
theorem heldFitsM {es : List Ent} (h : ∀ e ∈ es, Held e) (h2 : ∀ x ∈ es, x.key.size ≤ 1048576 ∧ x.val.size ≤ 1048576) : ∀ e ∈ es, Fits e := fun e he =>
  ⟨by have := (h2 e he).1; omega, by have := (h2 e he).2; omega, (h e he).2.2.1, (h e he).2.2.2⟩
theorem rdI_ofM {w : World} {x : Addr} {len cap : Nat} {zs : List Int} (hl : len ≤ cap) (hm : cap ≤ maxLen) (hz : zs.length = cap) (hcell : ∀ i, i < zs.length → w.cell? (x.add i) = some (.int .i64 (zs.getD i 0))) :
    ∃ ns, RdI w (.slice (some x) len cap) ns := by
  refine ⟨zs.take len, some x, cap, ?_, ?_, hm, (fun h => by cases h), ?_⟩
  · congr 1; rw [List.length_take]; omega
  · rw [List.length_take]; omega
  · by_cases h0 : len = 0
    · left; subst h0; simp
    · right
      obtain ⟨b, off, spot⟩ := x
      have hc := hcell 0 (by omega)
      have hspot : spot = none := by simpa [Addr.add] using World.cell?_spot hc
      subst hspot
      refine ⟨b, off, rfl, fun i hi => ?_⟩
      have hi' : i < len := by rw [List.length_take] at hi; omega
      have h := hcell i (by omega)
      have hg : zs.getD i 0 = zs[i]'(by omega) := by simp [List.getD, List.getElem?_eq_getElem (show i < zs.length by omega)]
      rw [Addr.add_lit] at h
      rw [h, hg]
      simp only [List.getElem_take]
theorem open_intsM {H : Type} {enc : TypeId × Value → H} {w : World} {v : Value} {d : DataW H} {p : List MemPlace} (h : DataW.Trod enc Try.prog w 0 (fun _ => true) true 35 v d p) (hs : ∃ a n c, v = .slice a n c) : ∃ ns, RdI w v ns := by
  obtain ⟨a0, len0, cap0, rfl⟩ := hs
  obtain ⟨fuel, hf⟩ := h
  rcases open_ints Try.underlying35 Try.underlying2 (by kernel_rfl) hf with ⟨hcs, _⟩ | ⟨x, l, c, zs, hcs, _, hl, hm, hz, _, hcell, _⟩
  · simp [Value.cells] at hcs
    obtain ⟨rfl, rfl, rfl⟩ := hcs
    exact ⟨[], rdI_nil w⟩
  · simp [Value.cells] at hcs
    obtain ⟨rfl, rfl, rfl⟩ := hcs
    exact rdI_ofM hl hm (by simpa using hz) hcell
theorem imark_at (v : Value) (bs : List Int) (base k : Nat) (x : Int) (w : World) (hx : x = (k : Int)) (hk : k + bs.length ≤ 1073741824) (hown : OwnI w base v bs) :
    Calls Try.prog 34 #[v, .int .i64 x] w fun e w' => e = .returned (.int .i64 ((k + bs.length : Nat) : Int)) ∧ OwnI w' base v (imarks k bs.length) ∧ w.grownBy w' v.ownBlock := by
  subst hx; exact imark_any v bs base k w hk hown
end Go.Proofs.Ytihacdfchmobpaa
