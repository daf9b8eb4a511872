/-
  The contract of fourhead's All.
-/
import Derived.Test.YtlopmkmcjcijcaaFh9
namespace Go.Proofs.Ytlopmkmcjcijcaa
open Go.RowKit
set_option linter.unusedVariables false

/-- What All tells of a header that Read tells: its length is m. -/
def fhbad (n m : Nat) (bs : List Nat) (opt good : Bool) : List Nat :=
  (if decide (fhw bs 2 < m) then [6] else []) ++ (if decide (n < fhw bs 2) then [7] else []) ++ (if !opt then [8] else []) ++ (if !good then [9] else []) ++ (if decide (m ≤ fhw bs 2 ∧ 65535 < 8 * (fhw bs 6 % 8192) + fhw bs 2 - m) then [14] else [])
def fhall (n : Nat) (bs : List Nat) : List Nat :=
  if fhdef n bs = 0 then fhbad n (4 * (bs.getD 0 0 % 16)) bs (fhopts n bs).isSome (decide (orest (wsum 0 (bs.take (4 * (bs.getD 0 0 % 16)))) = 65535)) else [fhdef n bs]
theorem fhdef_pos {n : Nat} {bs : List Nat} (h : fhdef n bs = 0) : 1 ≤ n := by
  unfold fhdef at h
  split at h
  · cases h
  · omega
theorem opts_two {w : World} {r : Option (List (Nat × List Nat))} {e : Ending} {w' : World} (h : OptsIs w r e w') : ∃ v, e = .returned (.tuple #[v, .bool r.isSome]) ∧ Below w.heap.size w w' := by
  obtain ⟨hb, h⟩ := h
  cases r with
  | none => exact ⟨_, h, hb⟩
  | some M =>
    obtain ⟨v, e, _⟩ := h
    exact ⟨v, e, hb⟩
def AllIs (w : World) (l : List Nat) (e : Ending) (w' : World) : Prop := ∃ v, e = .returned v ∧ DefRead w' v l ∧ Below w.heap.size w w'
theorem fhbad_len (n m : Nat) (bs : List Nat) (a b : Bool) : (fhbad n m bs a b).length ≤ 5 := by
  unfold fhbad
  simp only [List.length_append]
  have h : ∀ (c : Bool) (x : Nat), (if c then [x] else []).length ≤ 1 := by intro c x; cases c <;> simp
  have h1 := h (decide (fhw bs 2 < m)) 6
  have h2 := h (decide (n < fhw bs 2)) 7
  have h3 := h (!a) 8
  have h4 := h (!b) 9
  have h5 := h (decide (m ≤ fhw bs 2 ∧ 65535 < 8 * (fhw bs 6 % 8192) + fhw bs 2 - m)) 14
  omega
end Go.Proofs.Ytlopmkmcjcijcaa
