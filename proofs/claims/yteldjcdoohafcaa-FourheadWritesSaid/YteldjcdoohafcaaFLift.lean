/-
  Opening an argument that is a header's fields: nine numbers and two addresses. Nothing is claimed of the program here.
-/
import Derived.Test.YteldjcdoohafcaaLift
import Derived.Test.YteldjcdoohafcaaFh6
import Derived.Test.YteldjcdoohafcaaFh11
import Derived.Lib.SmallJoins
namespace Go.Proofs.Yteldjcdoohafcaa
open Go.ChangeShapes Go.WideShapes Go.ChangeAt Go.RowKit Go.Joins Go.Deep
set_option linter.unusedVariables false
section
variable {H : Type} {enc : TypeId × Value → H} {W : World}
theorem open_int1 {base : Nat} {spare : Nat → Bool} {held : Bool} {n : Nat} {c : Value} {y : Option (DataW H × List MemPlace)} (h : DataW.trod enc Try.prog W base spare held n 3 [c] = y) (hy : ∃ z, y = some z) : ∃ z : Int, c = .int .i64 z := by
  obtain ⟨z, rfl⟩ := hy
  obtain ⟨a, e, _, _⟩ := DataW.trod_int Try.underlying3 h
  simp at e
  exact ⟨a, e⟩
theorem open_a4 {base : Nat} {spare : Nat → Bool} {held : Bool} {n : Nat} {c0 c1 c2 c3 : Value} {y : Option (DataW H × List MemPlace)} (h : DataW.trod enc Try.prog W base spare held n 23 [c0, c1, c2, c3] = y) (hy : ∃ z, y = some z) :
    ∃ l : List Nat, [c0, c1, c2, c3] = bcells l ∧ l.length = 4 ∧ ∀ x ∈ l, x < 256 := by
  obtain ⟨z, rfl⟩ := hy
  obtain ⟨xs, m, _, _, _, hl, hel⟩ := DataW.trod_array Try.underlying23 h
  rw [cells_u8] at hel
  have key : ∀ (i : Nat) (c : Value), i < 4 → ((([c0, c1, c2, c3] : List Value).drop (i * 1)).take 1) = [c] → ∃ k : Nat, c = .int .u8 (k : Nat) ∧ k < 256 := fun i c hi hc => by
    have h1 := hel i hi
    rw [hc, List.getElem?_eq_getElem (by omega)] at h1
    obtain ⟨a, e, _, wa⟩ := DataW.trod_int Try.underlying5 h1
    simp at e
    have h2 := wf_u8 wa
    obtain ⟨k, rfl⟩ := Int.eq_ofNat_of_zero_le h2.1
    exact ⟨k, e, by omega⟩
  obtain ⟨k0, rfl, l0⟩ := key 0 c0 (by decide) rfl
  obtain ⟨k1, rfl, l1⟩ := key 1 c1 (by decide) rfl
  obtain ⟨k2, rfl, l2⟩ := key 2 c2 (by decide) rfl
  obtain ⟨k3, rfl, l3⟩ := key 3 c3 (by decide) rfl
  refine ⟨[k0, k1, k2, k3], rfl, rfl, fun x hx => ?_⟩
  simp at hx
  rcases hx with rfl | rfl | rfl | rfl <;> assumption
set_option maxRecDepth 10000 in
theorem open_four {r : Reach} {b0 base : Nat} {spare : Nat → Bool} {held : Bool} {v : Value} {d : DataW H} {p : List MemPlace}
    (hv : Value.okWide Try.prog W r b0 25 v) (h : DataW.Trod enc Try.prog W base spare held 25 v d p) :
    ∃ f : FourV, v = .agg f.cells.toArray ∧ f.src.length = 4 ∧ f.dst.length = 4 ∧ (∀ x ∈ f.src, x < 256) ∧ ∀ x ∈ f.dst, x < 256 := by
  obtain ⟨cs, rfl, hsz⟩ := okWide_struct Try.underlying25 hv
  rw [cells_four] at hsz
  obtain ⟨fuel, hf⟩ := h
  obtain ⟨xs, n, _, _, _, hlen, hel⟩ := DataW.trod_struct Try.underlying25 hf
  have hx11 : xs.length = 11 := hlen
  have hsome : ∀ i, i < 11 → ∃ z, xs[i]? = some z := fun i hi => ⟨_, List.getElem?_eq_getElem (by omega)⟩
  obtain ⟨l⟩ := cs
  match l, hsz with
  | [c0, c1, c2, c3, c4, c5, c6, c7, c8, c9, c10, c11, c12, c13, c14, c15, c16], _ =>
    obtain ⟨z0, rfl⟩ := open_int1 (enc := enc) (hel 0 _ rfl) (hsome 0 (by decide))
    obtain ⟨z1, rfl⟩ := open_int1 (enc := enc) (hel 1 _ rfl) (hsome 1 (by decide))
    obtain ⟨z2, rfl⟩ := open_int1 (enc := enc) (hel 2 _ rfl) (hsome 2 (by decide))
    obtain ⟨z3, rfl⟩ := open_int1 (enc := enc) (hel 3 _ rfl) (hsome 3 (by decide))
    obtain ⟨z4, rfl⟩ := open_int1 (enc := enc) (hel 4 _ rfl) (hsome 4 (by decide))
    obtain ⟨z5, rfl⟩ := open_int1 (enc := enc) (hel 5 _ rfl) (hsome 5 (by decide))
    obtain ⟨z6, rfl⟩ := open_int1 (enc := enc) (hel 6 _ rfl) (hsome 6 (by decide))
    obtain ⟨z7, rfl⟩ := open_int1 (enc := enc) (hel 7 _ rfl) (hsome 7 (by decide))
    obtain ⟨z8, rfl⟩ := open_int1 (enc := enc) (hel 8 _ rfl) (hsome 8 (by decide))
    obtain ⟨s, es, sl, sb⟩ := open_a4 (enc := enc) (hel 9 _ rfl) (hsome 9 (by decide))
    obtain ⟨q, eq, ql, qb⟩ := open_a4 (enc := enc) (hel 10 _ rfl) (hsome 10 (by decide))
    refine ⟨⟨z0, z1, z2, z3, z4, z5, z6, z7, z8, s, q⟩, ?_, sl, ql, sb, qb⟩
    unfold FourV.cells
    simp only
    rw [← es, ← eq]
    rfl
end
end Go.Proofs.Yteldjcdoohafcaa
