/-
  Opening an argument that is a key: what rules ask of a packet. Nothing is claimed of the program here.
-/
import Derived.Test.YtlopmkmcjcijcaaSxLift
import Derived.Test.YtlopmkmcjcijcaaPo8
namespace Go.Proofs.Ytlopmkmcjcijcaa
open Go.ChangeShapes Go.WideShapes Go.ChangeAt Go.RowKit Go.Joins Go.Deep
set_option linter.unusedVariables false
section
variable {H : Type} {enc : TypeId × Value → H} {W : World}
theorem cells_key : Try.prog.cellsOf 73 = 38 := by kernel_rfl
theorem open_bool6 {base : Nat} {spare : Nat → Bool} {held : Bool} {n : Nat} {c : Value} {y : Option (DataW H × List MemPlace)} (h : DataW.trod enc Try.prog W base spare held n 4 [c] = y) (hy : ∃ z, y = some z) : ∃ b : Bool, c = .bool b := by
  obtain ⟨z, rfl⟩ := hy
  obtain ⟨a, e, _⟩ := DataW.trod_bool Try.underlying4 h
  simp at e
  exact ⟨a, e⟩
set_option maxRecDepth 10000 in
theorem open_key {r : Reach} {b0 base : Nat} {spare : Nat → Bool} {held : Bool} {v : Value} {d : DataW H} {p : List MemPlace}
    (hv : Value.okWide Try.prog W r b0 73 v) (h : DataW.Trod enc Try.prog W base spare held 73 v d p) :
    ∃ k : KeyV, v = .agg k.cells.toArray ∧ KeyOk k := by
  obtain ⟨cs, rfl, hsz⟩ := okWide_struct Try.underlying73 hv
  rw [cells_key] at hsz
  obtain ⟨fuel, hf⟩ := h
  obtain ⟨xs, n, _, _, _, hlen, hel⟩ := DataW.trod_struct Try.underlying73 hf
  have hx8 : xs.length = 8 := hlen
  have hsome : ∀ i, i < 8 → ∃ z, xs[i]? = some z := fun i hi => ⟨_, List.getElem?_eq_getElem (by omega)⟩
  obtain ⟨l⟩ := cs
  match l, hsz with
  | c0 :: rest, hsz =>
    have hr : rest.length = 37 := by simpa using hsz
    obtain ⟨z0, rfl, _⟩ := open_int6 (enc := enc) (hel 0 _ rfl) (hsome 0 (by decide))
    obtain ⟨s, es, sl, sb⟩ := open_a16 (enc := enc) (l := rest.take 16) (hel 1 _ rfl) (hsome 1 (by decide)) (by rw [List.length_take, hr]; rfl)
    obtain ⟨q, eq, ql, qb⟩ := open_a16 (enc := enc) (l := (rest.drop 16).take 16) (hel 2 _ rfl) (hsome 2 (by decide)) (by rw [List.length_take, List.length_drop, hr]; rfl)
    have hd5 : (rest.drop 32).length = 5 := by rw [List.length_drop, hr]
    match hdr : rest.drop 32, hd5 with
    | [v3, v4, v5, v6, v7], _ =>
      have e33 : rest.drop 33 = [v4, v5, v6, v7] := by rw [show 33 = 32 + 1 from rfl, ← List.drop_drop, hdr]; rfl
      have e34 : rest.drop 34 = [v5, v6, v7] := by rw [show 34 = 32 + 2 from rfl, ← List.drop_drop, hdr]; rfl
      have e35 : rest.drop 35 = [v6, v7] := by rw [show 35 = 32 + 3 from rfl, ← List.drop_drop, hdr]; rfl
      have e36 : rest.drop 36 = [v7] := by rw [show 36 = 32 + 4 from rfl, ← List.drop_drop, hdr]; rfl
      have h3 : DataW.trod enc Try.prog W base spare held n 3 (List.take 1 (rest.drop 32)) = xs[3]? := hel 3 _ rfl
      have h4 : DataW.trod enc Try.prog W base spare held n 3 (List.take 1 (rest.drop 33)) = xs[4]? := hel 4 _ rfl
      have h5 : DataW.trod enc Try.prog W base spare held n 4 (List.take 1 (rest.drop 34)) = xs[5]? := hel 5 _ rfl
      have h6 : DataW.trod enc Try.prog W base spare held n 3 (List.take 1 (rest.drop 35)) = xs[6]? := hel 6 _ rfl
      have h7 : DataW.trod enc Try.prog W base spare held n 3 (List.take 1 (rest.drop 36)) = xs[7]? := hel 7 _ rfl
      rw [hdr] at h3
      rw [e33] at h4
      rw [e34] at h5
      rw [e35] at h6
      rw [e36] at h7
      obtain ⟨p3, rfl, _⟩ := open_int6 (enc := enc) h3 (hsome 3 (by decide))
      obtain ⟨p4, rfl, _⟩ := open_int6 (enc := enc) h4 (hsome 4 (by decide))
      obtain ⟨p5, rfl⟩ := open_bool6 (enc := enc) h5 (hsome 5 (by decide))
      obtain ⟨p6, rfl, _⟩ := open_int6 (enc := enc) h6 (hsome 6 (by decide))
      obtain ⟨p7, rfl, _⟩ := open_int6 (enc := enc) h7 (hsome 7 (by decide))
      have hall : rest = bcells s ++ (bcells q ++ [.int .i64 p3, .int .i64 p4, .bool p5, .int .i64 p6, .int .i64 p7]) := by
        rw [← es, ← eq, ← hdr, show 32 = 16 + 16 from rfl, ← List.drop_drop, List.take_append_drop, List.take_append_drop]
      refine ⟨⟨z0, p3, s, q, [.int .i64 p4, .bool p5, .int .i64 p6, .int .i64 p7]⟩, ?_, ⟨sl, ql, sb, qb, rfl, ?_⟩⟩
      · rw [hall]
        rfl
      · intro v hv
        simp at hv
        rcases hv with rfl | rfl | rfl | rfl <;> rfl
end
end Go.Proofs.Ytlopmkmcjcijcaa
