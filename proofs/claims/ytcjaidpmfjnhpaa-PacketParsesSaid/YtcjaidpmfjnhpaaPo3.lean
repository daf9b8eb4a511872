/-
  Contracts of ports' Write.
-/
import Derived.Test.YtcjaidpmfjnhpaaPo2
namespace Go.Proofs.Ytcjaidpmfjnhpaa
open Go.RowKit
set_option linter.unusedVariables false

/-- A header's bytes. -/
def poHead (p : Int) (src dst n : Nat) : List Nat :=
  [src / 256, src % 256, dst / 256, dst % 256] ++ (if p = 6 then [0, 0, 0, 0, 0, 0, 0, 0, 80, 0, 0, 0, 0, 0, 0, 0] else if p = 17 then [(8 + n) / 256, (8 + n) % 256, 0, 0] else [0, 0, 0, 0, 0, 0, 0, 0])
theorem poHead_byte (p : Int) (src dst n : Nat) (hs : src ≤ 65535) (hd : dst ≤ 65535) (hn : n ≤ 65527) : ∀ x ∈ poHead p src dst n, x < 256 := by
  intro x hx
  unfold poHead at hx
  rcases List.mem_append.1 hx with h | h
  · simp at h
    omega
  · split at h
    · simp at h
      omega
    · split at h
      · simp at h
        omega
      · simp at h
        omega
theorem poHead_len {p : Int} (h0 : poLeast p ≠ 0) (src dst n : Nat) : (poHead p src dst n).length = poLeast p := by
  unfold poLeast at h0 ⊢
  unfold poHead
  split
  · rfl
  · split
    · rfl
    · split
      · rfl
      · rename_i h1 h2 h3; rw [if_neg h1, if_neg h2, if_neg h3] at h0; exact absurd rfl h0
/-- Which error. -/
def poErr (p src dst : Int) (n : Nat) : Nat := if poLeast p = 0 then 10 else if spPort src = false ∨ spPort dst = false then 1 else if 65535 - poLeast p < n then 18 else 0
theorem spPort_nat {n : Int} (h : spPort n = true) : ∃ k : Nat, n = (k : Int) ∧ k ≤ 65535 := by
  have h := of_decide_eq_true h
  exact ⟨n.toNat, by omega, by omega⟩
end Go.Proofs.Ytcjaidpmfjnhpaa
