/-
  Contracts of octet.value and of the document's digit: which digit a byte is.
-/
import Derived.Test.YtdpncnplbkmgoaaDoorBase
namespace Go.Proofs.YtdpncnplbkmgoaaDoor
open Go.RowKit
set_option linter.unusedVariables false
set_option maxRecDepth 10000

/-- Which digit a byte is, if it is one. -/
def hexv (c : Nat) : Option Nat := if 48 ≤ c ∧ c ≤ 57 then some (c - 48) else if 97 ≤ c ∧ c ≤ 102 then some (c - 87) else none
/-- A digit's byte. -/
def dg (v : Nat) : Nat := if v < 10 then 48 + v else 87 + v
theorem hexv_dg (v : Nat) (h : v < 16) : hexv (dg v) = some v := by
  unfold hexv dg
  by_cases h1 : v < 10
  · rw [if_pos h1, if_pos (by omega)]; congr 1; omega
  · rw [if_neg h1, if_neg (by omega), if_pos (by omega)]; congr 1; omega
theorem dg_hexv {c v : Nat} (h : hexv c = some v) : v < 16 ∧ c = dg v := by
  unfold hexv at h
  unfold dg
  by_cases h1 : 48 ≤ c ∧ c ≤ 57
  · rw [if_pos h1] at h; injection h with h; subst h; rw [if_pos (by omega)]; omega
  · rw [if_neg h1] at h
    by_cases h2 : 97 ≤ c ∧ c ≤ 102
    · rw [if_pos h2] at h; injection h with h; subst h; rw [if_neg (by omega)]; omega
    · rw [if_neg h2] at h; cases h
theorem hexv_none {c v : Nat} (h : hexv c = none) (hv : v < 16) : c ≠ dg v := by
  rintro rfl
  rw [hexv_dg v hv] at h
  cases h

/-- The digits' text. -/
abbrev digs : ByteArray := { data := #[48, 49, 50, 51, 52, 53, 54, 55, 56, 57, 97, 98, 99, 100, 101, 102] }
theorem digs_all : ∀ k : Fin 16, (digs[k.1]'(by have := k.2; exact this)).toNat = dg k.1 := by decide
theorem digs_at (k : Nat) (h : k < digs.size) : (digs[k]'h).toNat = dg k := digs_all ⟨k, h⟩
theorem dg_inj {a b : Nat} (ha : a < 16) (hb : b < 16) (h : dg a = dg b) : a = b := by
  have h1 := hexv_dg a ha
  rw [h, hexv_dg b hb] at h1
  injection h1 with h1
  exact h1.symm
theorem dg_lt {v : Nat} (h : v < 16) : dg v < 256 := by unfold dg; split <;> omega
theorem digit_hit {k v c : Nat} (hv : Hid (hexv c = some v)) (hk : k ≤ v) (h : k < digs.size) (ht : (((digs[k]'h).toNat : Int) == (c : Int)) = true) : k = v := by
  have h1 := dg_hexv hv.out
  have h2 : (digs[k]'h).toNat = c := by have h3 := beq_iff_eq.1 ht; omega
  rw [digs_at k h, h1.2] at h2
  exact dg_inj (by omega) h1.1 h2
theorem digit_miss {k v c : Nat} (hv : Hid (hexv c = some v)) (hk : k ≤ v) (h : k < digs.size) (ht : (((digs[k]'h).toNat : Int) == (c : Int)) = false) : k < v := by
  have h1 := dg_hexv hv.out
  have h2 : ¬ (digs[k]'h).toNat = c := by have h3 := beq_eq_false_iff_ne.1 ht; omega
  rw [digs_at k h] at h2
  rcases Nat.lt_or_eq_of_le hk with h3 | h3
  · exact h3
  · subst h3; exact absurd h1.2.symm h2
theorem digit_none {k c : Nat} (hv : Hid (hexv c = none)) (h : k < digs.size) (ht : (((digs[k]'h).toNat : Int) == (c : Int)) = true) : False := by
  have h2 : (digs[k]'h).toNat = c := by have h3 := beq_iff_eq.1 ht; omega
  rw [digs_at k h] at h2
  exact hexv_none hv.out h h2.symm

end Go.Proofs.YtdpncnplbkmgoaaDoor
