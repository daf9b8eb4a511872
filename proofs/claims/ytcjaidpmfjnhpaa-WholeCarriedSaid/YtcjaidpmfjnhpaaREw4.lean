/-
  The document's check of one extension header (layer 11).
-/
import Derived.Test.YtcjaidpmfjnhpaaREw3
import Derived.Test.YtcjaidpmfjnhpaaEw5
namespace Go.Proofs.Ytcjaidpmfjnhpaa
open Go.RowKit
set_option linter.unusedVariables false

theorem exCountF_at {u x : Nat} (hu : 0 < u) : ∀ (f i : Nat), i ≤ x → x < i + f → exCountF u ((x : Int) * (u : Int)) f i = some x
  | 0, i, h1, h2 => absurd h2 (by omega)
  | f + 1, i, h1, h2 => by
    rw [exCountF]
    by_cases he : i = x
    · rw [if_pos (by rw [he]), he]
    · have hne : ¬ (i : Int) * (u : Int) = (x : Int) * (u : Int) := fun e => by
        have e2 : i * u = x * u := by
          have : ((i * u : Nat) : Int) = ((x * u : Nat) : Int) := by simpa using e
          exact Int.ofNat.inj this
        exact he (Nat.eq_of_mul_eq_mul_right hu e2)
      rw [if_neg hne]
      exact exCountF_at hu f (i + 1) (by omega) (by omega)
/-- How many bytes, two of them ahead of the body, a header may have, and its count. -/
def exWell (k : Int) (n : Nat) : Bool := if k = 44 then decide (n = 8) else if k = 51 then decide (n % 4 = 0 ∧ 8 ≤ n ∧ n ≤ 1028) else decide (n % 8 = 0 ∧ n ≤ 2048)
def exTell (k : Int) (n : Nat) : Nat := if k = 44 then 0 else if k = 51 then n / 4 - 2 else n / 8 - 1
theorem exCount_well (k : Int) (len : Nat) : (exCount k len).isSome = exWell k (len + 2) ∧ (exWell k (len + 2) = true → (exCount k len).getD 0 = exTell k (len + 2)) := by
  by_cases h : exWell k (len + 2) = true
  · have hc : exCount k len = some (exTell k (len + 2)) := by
      unfold exWell at h
      unfold exCount exTell exUnit
      by_cases h4 : k = 44
      · rw [if_pos h4] at h ⊢
        rw [if_pos h4]
        have h2 : len = 6 := by have := of_decide_eq_true h; omega
        subst h2
        rfl
      · rw [if_neg h4] at h ⊢
        rw [if_neg h4]
        by_cases h5 : k = 51
        · rw [if_pos h5] at h ⊢
          rw [if_pos h5]
          have h2 := of_decide_eq_true h
          have e : (len : Int) - 6 = (((len + 2) / 4 - 2 : Nat) : Int) * ((4 : Nat) : Int) := by omega
          rw [e]
          exact exCountF_at (by decide) 256 0 (Nat.zero_le _) (by omega)
        · rw [if_neg h5] at h ⊢
          rw [if_neg h5]
          have h2 := of_decide_eq_true h
          have e : (len : Int) - 6 = (((len + 2) / 8 - 1 : Nat) : Int) * ((8 : Nat) : Int) := by omega
          rw [e]
          exact exCountF_at (by decide) 256 0 (Nat.zero_le _) (by omega)
    rw [hc]
    exact ⟨h.symm, fun _ => rfl⟩
  · have hf : exWell k (len + 2) = false := by simpa using h
    refine ⟨?_, fun e => absurd e h⟩
    rw [hf]
    cases hc : exCount k len with
    | none => rfl
    | some x =>
      exfalso
      apply h
      unfold exCount at hc
      obtain ⟨h1, h2⟩ := exCountF_some hc
      unfold exUnit at h2
      unfold exWell
      by_cases h4 : k = 44
      · rw [if_pos h4] at h2 ⊢
        exact decide_eq_true (by simp at h2; omega)
      · rw [if_neg h4] at h2 ⊢
        by_cases h5 : k = 51
        · rw [if_pos h5] at h2 ⊢
          exact decide_eq_true (by omega)
        · rw [if_neg h5] at h2 ⊢
          exact decide_eq_true (by omega)
/-- Is there a fragment header ahead of number i? -/
def hadFrag (M : List (Int × List Nat)) : Nat → Bool
  | 0 => false
  | i + 1 => hadFrag M i || decide ((M.getD i (0, [])).1 = 44)
def exWrong (m : Int × List Nat) (i : Nat) (fr : Bool) : Nat := if exKind m.1 = false then 10 else if (exCount m.1 m.2.length).isSome = false then 3 else if m.1 = 0 ∧ 0 < i then 6 else if m.1 = 44 ∧ fr = true then 9 else 0
theorem hadFrag_true {M : List (Int × List Nat)} : ∀ {i j : Nat}, j < i → (M.getD j (0, [])).1 = 44 → hadFrag M i = true
  | i + 1, j, h, e => by
    rw [hadFrag]
    by_cases hj : j = i
    · subst hj; rw [decide_eq_true e, Bool.or_true]
    · rw [hadFrag_true (by omega) e, Bool.true_or]
theorem hadFrag_false {M : List (Int × List Nat)} : ∀ {i : Nat}, (∀ j, j < i → (M.getD j (0, [])).1 ≠ 44) → hadFrag M i = false
  | 0, _ => rfl
  | i + 1, h => by rw [hadFrag, hadFrag_false fun j hj => h j (by omega), decide_eq_false (h i (by omega))]; rfl
theorem wrong_step (m : Int × List Nat) (r : List (Int × List Nat)) (i : Nat) (fr : Bool) : exCheckF (m :: r) i fr = if exWrong m i fr = 0 then exCheckF r (i + 1) (fr || decide (m.1 = 44)) else (exWrong m i fr, i) := by
  obtain ⟨k, b⟩ := m
  rw [exCheckF]
  unfold exWrong
  dsimp only
  by_cases h1 : exKind k = false
  · rw [if_pos h1, if_pos h1]; rfl
  · rw [if_neg h1, if_neg h1]
    by_cases h2 : (exCount k b.length).isSome = false
    · rw [if_pos h2, if_pos h2]; rfl
    · rw [if_neg h2, if_neg h2]
      by_cases h3 : k = 0 ∧ 0 < i
      · rw [if_pos h3, if_pos h3]; rfl
      · rw [if_neg h3, if_neg h3]
        by_cases h4 : k = 44 ∧ fr = true
        · rw [if_pos h4, if_pos h4]; rfl
        · rw [if_neg h4, if_neg h4]; rfl
theorem wrong_ints {n : Nat} (h : n ≤ 140737488355328) : wrap64 ((n : Int) + 2) = ((n + 2 : Nat) : Int) := by unfold wrap64; omega
def NoFrag (k : Int) (M : List (Int × List Nat)) (q : Nat) : Prop := k = 44 → ∀ j, j < q → (M.getD j (0, [])).1 ≠ 44
theorem wrong_other {k : Int} : k = 44 ∨ k = 51 ∨ k = 0 ∨ (k ≠ 44 ∧ k ≠ 51 ∧ k ≠ 0) := by omega
theorem wrong_idx {q i N : Nat} (h : q < i) (hi : i < N) (h8 : N ≤ 1000) : (q : Int) < (i : Int) ∧ (q : Int) < (N : Int) ∧ (0 : Int) ≤ (q : Int) ∧ i - (q + 1) < i - q := ⟨by omega, by omega, by omega, by omega⟩
end Go.Proofs.Ytcjaidpmfjnhpaa
