/-
  Names of code points, put together as the program and the document do. Nothing of the program.
-/
import Derived.Test.YtdeoeikpooonlaaDoorPtPlain
import Derived.Test.YtdeoeikpooonlaaDoorDot4
namespace Go.Proofs.YtdeoeikpooonlaaDoor
set_option linter.unusedVariables false

theorem dig_ten {n : Nat} (h : n < 10) : dig n = ⟨#[ptDig n]⟩ := by
  unfold dig
  rw [dec_small h]
  rfl
theorem dig_hundred {n : Nat} (h : ¬ n < 10) (h2 : n < 100) : dig n = ⟨#[ptDig (n / 10), ptDig (n % 10)]⟩ := by
  unfold dig
  rw [dec_step h, dec_small (by omega)]
  rfl
theorem str_cat (a b : List UInt8) : (⟨a.toArray⟩ : ByteArray) ++ ⟨b.toArray⟩ = ⟨(a ++ b).toArray⟩ := by
  apply ByteArray.ext
  simp
theorem str_cat_nil (b : ByteArray) : (⟨#[]⟩ : ByteArray) ++ b = b := by
  apply ByteArray.ext
  simp
/-- The first numbers' digits. -/
def ptd (xs : List Nat) : Nat → ByteArray
  | 0 => ⟨#[]⟩
  | k + 1 => ptd xs k ++ dig (xs.getD k 0)
theorem ptd_one (a : Nat) : ptd [a] 1 = dig a := by
  show (⟨#[]⟩ : ByteArray) ++ dig a = _
  rw [str_cat_nil]
theorem ptd_two (a b : Nat) : ptd [a, b] 2 = dig a ++ dig b := by
  show ((⟨#[]⟩ : ByteArray) ++ dig a) ++ dig b = _
  rw [str_cat_nil]
theorem ptName_class {n : Nat} (hn : n < 64) (h : ptSortN n = 1) : ptName n = ⟨#[99, 115]⟩ ++ dig (n / 8) := by
  rw [dig_ten (by omega), ptName_nat, ptLetters, if_neg (by rw [h]; decide), if_pos h]
  rfl
theorem ptName_assured {n : Nat} (hn : n < 64) (h : ptSortN n = 2) : ptName n = (⟨#[97, 102]⟩ ++ dig (n / 8)) ++ dig (ptPrec n) := by
  have := ptPrec_le n
  rw [dig_ten (by omega), dig_ten (by omega), ptName_nat, ptLetters, if_neg (by rw [h]; decide), if_neg (by rw [h]; decide), if_pos h]
  rfl
theorem ptName_assured2 {n : Nat} (hn : n < 64) (h : ptSortN n = 2) : ptName n = ⟨#[97, 102]⟩ ++ (dig (n / 8) ++ dig (ptPrec n)) := by
  have := ptPrec_le n
  rw [dig_ten (by omega), dig_ten (by omega), ptName_nat, ptLetters, if_neg (by rw [h]; decide), if_neg (by rw [h]; decide), if_pos h]
  rfl
theorem ptName_fixed {n : Nat} {c : Nat} {s : ByteArray} (h : ptSortN n = c) (hs : (c = 3 ∧ s = ⟨#[101, 102]⟩) ∨ (c = 4 ∧ s = ⟨#[118, 97]⟩) ∨ (c = 5 ∧ s = ⟨#[108, 101]⟩)) : ptName n = s := by
  rw [ptName_nat, ptLetters]
  rcases hs with ⟨rfl, rfl⟩ | ⟨rfl, rfl⟩ | ⟨rfl, rfl⟩
  · rw [if_neg (by rw [h]; decide), if_neg (by rw [h]; decide), if_neg (by rw [h]; decide), if_pos h]
  · rw [if_neg (by rw [h]; decide), if_neg (by rw [h]; decide), if_neg (by rw [h]; decide), if_neg (by rw [h]; decide), if_pos h]
  · rw [if_neg (by rw [h]; decide), if_neg (by rw [h]; decide), if_neg (by rw [h]; decide), if_neg (by rw [h]; decide), if_neg (by rw [h]; decide), if_pos h]
theorem ptName_other {n : Nat} (hn : n < 64) (h : ptSortN n = 6) : ptName n = dig n := by
  rw [ptName_nat, ptLetters, if_neg (by rw [h]; decide), if_neg (by rw [h]; decide), if_neg (by rw [h]; decide), if_neg (by rw [h]; decide), if_neg (by rw [h]; decide), if_neg (by rw [h]; decide)]
  by_cases h1 : n < 10
  · rw [if_pos h1, dig_ten h1]
  · rw [if_neg h1, dig_hundred h1 (by omega)]
theorem ptName_none {d : Int} (h : ptSortN d = 0) : ptName d = ⟨#[]⟩ := by
  unfold ptName
  split
  · rfl
  · rename_i h0
    obtain ⟨n, rfl⟩ := Int.eq_ofNat_of_zero_le (by omega : 0 ≤ d)
    rw [Int.toNat_natCast, ptLetters, if_pos h]
theorem ptSortN_range {d : Int} (h : ptSortN d ≠ 0) : 0 ≤ d ∧ d < 64 := by
  unfold ptSortN at h
  split at h
  · exact absurd rfl h
  · omega
end Go.Proofs.YtdeoeikpooonlaaDoor
