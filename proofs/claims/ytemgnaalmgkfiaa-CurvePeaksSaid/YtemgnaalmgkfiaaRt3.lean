/-
  ratchet's Longest.
-/
import Derived.Test.YtemgnaalmgkfiaaRt2
namespace Go.Proofs.Ytemgnaalmgkfiaa
open Go.RowKit Go.Shelf
set_option linter.unusedVariables false
attribute [local go_sem] Oper.semAt_some

/-- The longest so far, where it ends, and the time before. -/
def lgStep (xs : List Nat) (st : Nat × Int × Nat) (x : Nat) : Nat × Int × Nat :=
  if x = 1 ∨ (1 < x ∧ st.1 < (rtMax xs (x + 1) + 18446744073709551616 - st.2.2) % 18446744073709551616) then ((rtMax xs (x + 1) + 18446744073709551616 - st.2.2) % 18446744073709551616, (x : Int), rtMax xs (x + 1)) else (st.1, st.2.1, rtMax xs (x + 1))
def lgOf (xs : List Nat) (l : List Nat) : Nat × Int × Nat := l.foldl (lgStep xs) (0, -1, 0)
theorem lgOf_add (xs l : List Nat) (x : Nat) : lgOf xs (l ++ [x]) = lgStep xs (lgOf xs l) x := by simp [lgOf]
theorem lgStep_yes {xs : List Nat} {a d y : Nat} {b : Int} {c x : Nat} (hy : y = rtMax xs (x + 1)) (hd : d = (y + 18446744073709551616 - c) % 18446744073709551616) (h : x = 1 ∨ (1 < x ∧ a < d)) : lgStep xs (a, b, c) x = (d, (x : Int), y) := by
  subst hy hd
  unfold lgStep
  rw [if_pos h]
theorem lgStep_no {xs : List Nat} {a d y : Nat} {b : Int} {c x : Nat} (hy : y = rtMax xs (x + 1)) (hd : d = (y + 18446744073709551616 - c) % 18446744073709551616) (h : ¬ (x = 1 ∨ (1 < x ∧ a < d))) : lgStep xs (a, b, c) x = (a, b, y) := by
  subst hy hd
  unfold lgStep
  rw [if_neg h]
theorem lg_wrap {y c d : Nat} (hy : y < 18446744073709551616) (hc : c < 18446744073709551616) (hd : d = (y + 18446744073709551616 - c) % 18446744073709551616) : IntKind.u64.wrap ((y : Int) - (c : Int)) = (d : Int) := by
  rw [IntKind.wrap_u64]; omega
theorem lgOf_word {xs : List Nat} (h : ∀ k, rtMax xs k < 18446744073709551616) (l : List Nat) : (lgOf xs l).1 < 18446744073709551616 ∧ (lgOf xs l).2.2 < 18446744073709551616 := by
  suffices ∀ (l : List Nat) (st : Nat × Int × Nat), st.1 < 18446744073709551616 → st.2.2 < 18446744073709551616 → (l.foldl (lgStep xs) st).1 < 18446744073709551616 ∧ (l.foldl (lgStep xs) st).2.2 < 18446744073709551616 from this l _ (by decide) (by decide)
  intro l
  induction l with
  | nil => exact fun st h1 h2 => ⟨h1, h2⟩
  | cons x l ih =>
    intro st h1 h2
    refine ih _ ?_ ?_
    · unfold lgStep
      split
      · exact Nat.mod_lt _ (by decide)
      · exact h1
    · unfold lgStep
      split
      · exact h _
      · exact h _

end Go.Proofs.Ytemgnaalmgkfiaa
