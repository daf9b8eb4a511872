/-
  Opening an argument that is a header of version 6: five numbers and two addresses. Nothing is claimed of the program here.
-/
import Derived.Test.YtlopmkmcjcijcaaLift
import Derived.Test.YtlopmkmcjcijcaaSxEq
import Derived.Lib.SmallJoins
namespace Go.Proofs.Ytlopmkmcjcijcaa
open Go.ChangeShapes Go.WideShapes Go.ChangeAt Go.RowKit Go.Joins Go.Deep
set_option linter.unusedVariables false
section
variable {H : Type} {enc : TypeId × Value → H} {W : World}
theorem open_int6 {base : Nat} {spare : Nat → Bool} {held : Bool} {n : Nat} {c : Value} {y : Option (DataW H × List MemPlace)} (h : DataW.trod enc Try.prog W base spare held n 3 [c] = y) (hy : ∃ z, y = some z) : ∃ z : Int, c = .int .i64 z ∧ -9223372036854775808 ≤ z ∧ z ≤ 9223372036854775807 := by
  obtain ⟨z, rfl⟩ := hy
  obtain ⟨a, e, _, wa⟩ := DataW.trod_int Try.underlying3 h
  simp at e
  exact ⟨a, e, wf_i64 wa⟩
theorem bytes_of {l : List Value} (h : ∀ (i : Nat), i < l.length → ∃ k : Nat, l[i]? = some (.int .u8 (k : Nat)) ∧ k < 256) : ∃ bs : List Nat, l = bcells bs ∧ bs.length = l.length ∧ ∀ x ∈ bs, x < 256 := by
  induction l with
  | nil => exact ⟨[], rfl, rfl, fun x hx => by cases hx⟩
  | cons v l ih =>
    obtain ⟨k, e, hk⟩ := h 0 (by simp)
    obtain ⟨bs, e2, e3, e4⟩ := ih (fun i hi => by
      obtain ⟨q, h1, h2⟩ := h (i + 1) (by simpa using hi)
      exact ⟨q, by simpa using h1, h2⟩)
    simp at e
    refine ⟨k :: bs, by rw [e, e2]; rfl, by simp [e3], fun x hx => ?_⟩
    rcases List.mem_cons.1 hx with rfl | hx
    · exact hk
    · exact e4 x hx
theorem open_a16 {base : Nat} {spare : Nat → Bool} {held : Bool} {n : Nat} {l : List Value} {y : Option (DataW H × List MemPlace)} (h : DataW.trod enc Try.prog W base spare held n 49 l = y) (hy : ∃ z, y = some z) (hl : l.length = 16) :
    ∃ bs : List Nat, l = bcells bs ∧ bs.length = 16 ∧ ∀ x ∈ bs, x < 256 := by
  obtain ⟨z, rfl⟩ := hy
  obtain ⟨xs, m, _, _, _, hxl, hel⟩ := DataW.trod_array Try.underlying49 h
  rw [cells_u8] at hel
  obtain ⟨bs, h1, h2, h3⟩ := bytes_of (l := l) (fun i hi => by
    have h16 : i < 16 := by omega
    have h1 := hel i h16
    have hc : (l.drop (i * 1)).take 1 = [l[i]] := by
      rw [Nat.mul_one, List.drop_eq_getElem_cons hi]
      rfl
    rw [hc, List.getElem?_eq_getElem (by omega)] at h1
    obtain ⟨a, e, _, wa⟩ := DataW.trod_int Try.underlying5 h1
    simp at e
    have h2 := wf_u8 wa
    obtain ⟨k, rfl⟩ := Int.eq_ofNat_of_zero_le h2.1
    exact ⟨k, by rw [List.getElem?_eq_getElem hi, e], by omega⟩)
  exact ⟨bs, h1, by rw [h2, hl], h3⟩
set_option maxRecDepth 10000 in
theorem open_six {r : Reach} {b0 base : Nat} {spare : Nat → Bool} {held : Bool} {v : Value} {d : DataW H} {p : List MemPlace}
    (hv : Value.okWide Try.prog W r b0 51 v) (h : DataW.Trod enc Try.prog W base spare held 51 v d p) :
    ∃ f : SixV, v = .agg f.cells.toArray ∧ f.src.length = 16 ∧ f.dst.length = 16 ∧ (∀ x ∈ f.src, x < 256) ∧ (∀ x ∈ f.dst, x < 256) ∧ ∀ j, -9223372036854775808 ≤ f.k j ∧ f.k j ≤ 9223372036854775807 := by
  obtain ⟨cs, rfl, hsz⟩ := okWide_struct Try.underlying51 hv
  rw [cells_six] at hsz
  obtain ⟨fuel, hf⟩ := h
  obtain ⟨xs, n, _, _, _, hlen, hel⟩ := DataW.trod_struct Try.underlying51 hf
  have hx7 : xs.length = 7 := hlen
  have hsome : ∀ i, i < 7 → ∃ z, xs[i]? = some z := fun i hi => ⟨_, List.getElem?_eq_getElem (by omega)⟩
  obtain ⟨l⟩ := cs
  match l, hsz with
  | c0 :: c1 :: c2 :: c3 :: c4 :: rest, hsz =>
    have hr : rest.length = 32 := by simpa using hsz
    obtain ⟨z0, rfl, b0⟩ := open_int6 (enc := enc) (hel 0 _ rfl) (hsome 0 (by decide))
    obtain ⟨z1, rfl, b1⟩ := open_int6 (enc := enc) (hel 1 _ rfl) (hsome 1 (by decide))
    obtain ⟨z2, rfl, b2⟩ := open_int6 (enc := enc) (hel 2 _ rfl) (hsome 2 (by decide))
    obtain ⟨z3, rfl, b3⟩ := open_int6 (enc := enc) (hel 3 _ rfl) (hsome 3 (by decide))
    obtain ⟨z4, rfl, b4⟩ := open_int6 (enc := enc) (hel 4 _ rfl) (hsome 4 (by decide))
    have h5 := hel 5 _ rfl
    have h6 := hel 6 _ rfl
    have e5 : List.take 16 rest ++ List.drop 16 rest = rest := List.take_append_drop 16 rest
    obtain ⟨s, es, sl, sb⟩ := open_a16 (enc := enc) (l := rest.take 16) h5 (hsome 5 (by decide)) (by rw [List.length_take, hr]; rfl)
    obtain ⟨q, eq, ql, qb⟩ := open_a16 (enc := enc) (l := (rest.drop 16).take 16) h6 (hsome 6 (by decide)) (by rw [List.length_take, List.length_drop, hr]; rfl)
    have eq2 : rest.drop 16 = bcells q := by rw [← eq, List.take_of_length_le (by rw [List.length_drop, hr]; decide)]
    refine ⟨⟨fun j => match j with | 0 => z0 | 1 => z1 | 2 => z2 | 3 => z3 | _ => z4, s, q⟩, ?_, sl, ql, sb, qb, fun j => ?_⟩
    · unfold SixV.cells
      rw [← es, ← eq2, List.append_assoc, List.take_append_drop]
      rfl
    · match j with
      | 0 => exact b0
      | 1 => exact b1
      | 2 => exact b2
      | 3 => exact b3
      | k + 4 => exact b4
end
end Go.Proofs.Ytlopmkmcjcijcaa
