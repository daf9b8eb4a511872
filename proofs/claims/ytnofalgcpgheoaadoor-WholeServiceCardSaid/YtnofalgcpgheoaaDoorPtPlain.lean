/-
  Code points: their precedences, sorts and names, and the point of a text: plain facts. Nothing of the program.
  Names of code points, put together as the program and the document do. Nothing of the program.
-/
import Derived.Test.YtnofalgcpgheoaaDoorDec
import Derived.Test.YtnofalgcpgheoaaDoorDot4
namespace Go.Proofs.YtnofalgcpgheoaaDoor
set_option linter.unusedVariables false

/-- The precedence of a number, 0 where it is none of an assured class. -/
def ptPrec (d : Int) : Nat := if 8 ≤ d ∧ d < 40 ∧ d % 2 = 0 then (d % 8 / 2).toNat else 0
theorem ptPrec_le (d : Int) : ptPrec d ≤ 3 := by unfold ptPrec; split <;> omega
/-- The sorts, as numbers. -/
def ptSortN (d : Int) : Nat := if d < 0 ∨ 64 ≤ d then 0 else if d % 8 = 0 then 1 else if ptPrec d ≠ 0 then 2 else if d = 46 then 3 else if d = 44 then 4 else if d = 1 then 5 else 6
def ptWord : Nat → ByteArray
  | 0 => ⟨#[]⟩
  | 1 => ⟨#[99, 108, 97, 115, 115]⟩
  | 2 => ⟨#[97, 115, 115, 117, 114, 101, 100]⟩
  | 3 => ⟨#[101, 120, 112, 101, 100, 105, 116, 101, 100]⟩
  | 4 => ⟨#[118, 111, 105, 99, 101]⟩
  | 5 => ⟨#[108, 111, 119, 101, 114]⟩
  | _ => ⟨#[111, 116, 104, 101, 114]⟩
def ptSort (d : Int) : ByteArray := ptWord (ptSortN d)
def ptDig (n : Nat) : UInt8 := UInt8.ofNat (48 + n)
/-- The letters of a code point's name. -/
def ptLetters (d : Nat) : List UInt8 :=
  if ptSortN d = 0 then []
  else if ptSortN d = 1 then [99, 115, ptDig (d / 8)]
  else if ptSortN d = 2 then [97, 102, ptDig (d / 8), ptDig (ptPrec d)]
  else if ptSortN d = 3 then [101, 102]
  else if ptSortN d = 4 then [118, 97]
  else if ptSortN d = 5 then [108, 101]
  else if d < 10 then [ptDig d] else [ptDig (d / 10), ptDig (d % 10)]
def ptName (d : Int) : ByteArray := if d < 0 then ⟨#[]⟩ else ⟨(ptLetters d.toNat).toArray⟩
theorem ptName_nat (d : Nat) : ptName (d : Int) = ⟨(ptLetters d).toArray⟩ := by
  unfold ptName
  rw [if_neg (by omega), Int.toNat_natCast]
theorem ptName_list (d : Nat) : (ptName (d : Int)).data.toList = ptLetters d := by rw [ptName_nat]
theorem ptSort_none {d : Int} (h : d < 0 ∨ 64 ≤ d) : ptSortN d = 0 := by unfold ptSortN; rw [if_pos h]
theorem ptSort_class {d : Int} (h0 : 0 ≤ d) (h1 : d < 64) (h : d % 8 = 0) : ptSortN d = 1 := by unfold ptSortN; rw [if_neg (by omega), if_pos h]
theorem ptSort_assured {d : Int} (h0 : 0 ≤ d) (h1 : d < 64) (h : d % 8 ≠ 0) (h2 : ptPrec d ≠ 0) : ptSortN d = 2 := by unfold ptSortN; rw [if_neg (by omega), if_neg h, if_pos h2]
theorem ptSort_rest {d : Int} (h0 : 0 ≤ d) (h1 : d < 64) (h : d % 8 ≠ 0) (h2 : ptPrec d = 0) : ptSortN d = if d = 46 then 3 else if d = 44 then 4 else if d = 1 then 5 else 6 := by
  unfold ptSortN
  rw [if_neg (by omega), if_neg h, if_neg (by rw [h2]; decide)]
theorem ptSort_le (d : Int) : ptSortN d ≤ 6 := by unfold ptSortN; (repeat' split) <;> omega
/-- The point of a text, and what is wrong with it. -/
def ptParse (l : List UInt8) : Nat × Nat :=
  match (List.range 64).find? (fun d => ptLetters d == l) with
  | some d => (d, 0)
  | none => if numOkM 2 l then (if numv l < 64 then (numv l, 0) else (0, 14)) else (0, 3)
theorem ptParse_found {l : List UInt8} {d : Nat} (hd : d < 64) (h : ptLetters d = l) (hb : ∀ j, j < d → ptLetters j ≠ l) : ptParse l = (d, 0) := by
  unfold ptParse
  have e : (List.range 64).find? (fun d => ptLetters d == l) = some d := by
    rw [List.find?_range_eq_some]
    refine ⟨by simpa using h, by simpa using hd, fun j hj => ?_⟩
    have := hb j hj
    simpa using this
  rw [e]
theorem ptParse_none {l : List UInt8} (hb : ∀ j, j < 64 → ptLetters j ≠ l) : ptParse l = if numOkM 2 l then (if numv l < 64 then (numv l, 0) else (0, 14)) else (0, 3) := by
  unfold ptParse
  have e : (List.range 64).find? (fun d => ptLetters d == l) = none := by
    rw [List.find?_eq_none]
    intro j hj
    have := hb j (by simpa using hj)
    simpa using this
  rw [e]
set_option maxRecDepth 100000 in
theorem ptLetters_one : ∀ d, d < 64 → ∀ x, x < 64 → ptLetters d = ptLetters x → d = x := by decide +kernel
theorem ptLetters_len : ∀ d, d < 64 → (ptLetters d).length ≤ 4 := by decide +kernel
theorem ptParse_name {d : Nat} (hd : d < 64) : ptParse (ptLetters d) = (d, 0) :=
  ptParse_found hd rfl fun j hj e => by
    have := ptLetters_one j (by omega) d hd e
    omega
theorem ptParse_good {l : List UInt8} (h : (ptParse l).2 = 0) : (ptParse l).1 < 64 ∧ l.length ≤ 4 := by
  unfold ptParse at h ⊢
  split at h
  · rename_i d hd
    obtain ⟨h1, h2, _⟩ := List.find?_range_eq_some.1 hd
    have h3 : ptLetters d = l := by simpa using h1
    have h4 : d < 64 := by simpa using h2
    exact ⟨h4, by rw [← h3]; exact ptLetters_len d h4⟩
  · rename_i hn
    split at h
    · rename_i hok
      have hok2 := hok
      unfold numOkM at hok
      simp at hok
      split at h
      · rename_i hlt
        simp [hok2, hlt]
        omega
      · simp at h
    · simp at h
theorem ptParse_err {l : List UInt8} : (ptParse l).2 = 0 ∨ (ptParse l).2 = 3 ∨ (ptParse l).2 = 14 := by
  unfold ptParse
  (repeat' split) <;> simp
end Go.Proofs.YtnofalgcpgheoaaDoor

namespace Go.Proofs.YtnofalgcpgheoaaDoor
set_option linter.unusedVariables false

theorem dig_ten {n : Nat} (h : n < 10) : dig n = ⟨#[ptDig n]⟩ := by
  unfold dig
  rw [dec_small h]
  rfl
theorem dig_hundred {n : Nat} (h : ¬ n < 10) (h2 : n < 100) : dig n = ⟨#[ptDig (n / 10), ptDig (n % 10)]⟩ := by
  unfold dig
  rw [dec_step h, dec_small (by omega)]
  rfl
theorem str_cat (a b : List UInt8) : (⟨a.toArray⟩ : ByteArray) ++ ⟨b.toArray⟩ = ⟨(a ++ b).toArray⟩ := by
  apply ByteArray.ext
  simp
theorem str_cat_nil (b : ByteArray) : (⟨#[]⟩ : ByteArray) ++ b = b := by
  apply ByteArray.ext
  simp
/-- The first numbers' digits. -/
def ptd (xs : List Nat) : Nat → ByteArray
  | 0 => ⟨#[]⟩
  | k + 1 => ptd xs k ++ dig (xs.getD k 0)
theorem ptd_one (a : Nat) : ptd [a] 1 = dig a := by
  show (⟨#[]⟩ : ByteArray) ++ dig a = _
  rw [str_cat_nil]
theorem ptd_two (a b : Nat) : ptd [a, b] 2 = dig a ++ dig b := by
  show ((⟨#[]⟩ : ByteArray) ++ dig a) ++ dig b = _
  rw [str_cat_nil]
theorem ptName_class {n : Nat} (hn : n < 64) (h : ptSortN n = 1) : ptName n = ⟨#[99, 115]⟩ ++ dig (n / 8) := by
  rw [dig_ten (by omega), ptName_nat, ptLetters, if_neg (by rw [h]; decide), if_pos h]
  rfl
theorem ptName_assured {n : Nat} (hn : n < 64) (h : ptSortN n = 2) : ptName n = (⟨#[97, 102]⟩ ++ dig (n / 8)) ++ dig (ptPrec n) := by
  have := ptPrec_le n
  rw [dig_ten (by omega), dig_ten (by omega), ptName_nat, ptLetters, if_neg (by rw [h]; decide), if_neg (by rw [h]; decide), if_pos h]
  rfl
theorem ptName_assured2 {n : Nat} (hn : n < 64) (h : ptSortN n = 2) : ptName n = ⟨#[97, 102]⟩ ++ (dig (n / 8) ++ dig (ptPrec n)) := by
  have := ptPrec_le n
  rw [dig_ten (by omega), dig_ten (by omega), ptName_nat, ptLetters, if_neg (by rw [h]; decide), if_neg (by rw [h]; decide), if_pos h]
  rfl
theorem ptName_fixed {n : Nat} {c : Nat} {s : ByteArray} (h : ptSortN n = c) (hs : (c = 3 ∧ s = ⟨#[101, 102]⟩) ∨ (c = 4 ∧ s = ⟨#[118, 97]⟩) ∨ (c = 5 ∧ s = ⟨#[108, 101]⟩)) : ptName n = s := by
  rw [ptName_nat, ptLetters]
  rcases hs with ⟨rfl, rfl⟩ | ⟨rfl, rfl⟩ | ⟨rfl, rfl⟩
  · rw [if_neg (by rw [h]; decide), if_neg (by rw [h]; decide), if_neg (by rw [h]; decide), if_pos h]
  · rw [if_neg (by rw [h]; decide), if_neg (by rw [h]; decide), if_neg (by rw [h]; decide), if_neg (by rw [h]; decide), if_pos h]
  · rw [if_neg (by rw [h]; decide), if_neg (by rw [h]; decide), if_neg (by rw [h]; decide), if_neg (by rw [h]; decide), if_neg (by rw [h]; decide), if_pos h]
theorem ptName_other {n : Nat} (hn : n < 64) (h : ptSortN n = 6) : ptName n = dig n := by
  rw [ptName_nat, ptLetters, if_neg (by rw [h]; decide), if_neg (by rw [h]; decide), if_neg (by rw [h]; decide), if_neg (by rw [h]; decide), if_neg (by rw [h]; decide), if_neg (by rw [h]; decide)]
  by_cases h1 : n < 10
  · rw [if_pos h1, dig_ten h1]
  · rw [if_neg h1, dig_hundred h1 (by omega)]
theorem ptName_none {d : Int} (h : ptSortN d = 0) : ptName d = ⟨#[]⟩ := by
  unfold ptName
  split
  · rfl
  · rename_i h0
    obtain ⟨n, rfl⟩ := Int.eq_ofNat_of_zero_le (by omega : 0 ≤ d)
    rw [Int.toNat_natCast, ptLetters, if_pos h]
theorem ptSortN_range {d : Int} (h : ptSortN d ≠ 0) : 0 ≤ d ∧ d < 64 := by
  unfold ptSortN at h
  split at h
  · exact absurd rfl h
  · omega
end Go.Proofs.YtnofalgcpgheoaaDoor
