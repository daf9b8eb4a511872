/-
  bitrow's within, Has, set, New; the document's New, Has, Same.
-/
import Derived.Test.YthikjngmaekjgaaBr1
import Derived.Test.YthikjngmaekjgaaRowsU
import Derived.Test.YthikjngmaekjgaaRowsI
import Derived.Test.YthikjngmaekjgaaOct1
namespace Go.Proofs.Ythikjngmaekjgaa
open Go.RowKit
set_option linter.unusedVariables false

/-- A row with a bit set, where it has one. -/
def setRow (xs : List Nat) (i : Nat) : List Nat := xs.set (i / 64) (xs.getD (i / 64) 0 ||| 2 ^ (i % 64))
theorem setRow_length (xs : List Nat) (i : Nat) : (setRow xs i).length = xs.length := by simp [setRow]
theorem setRow_out {xs : List Nat} {i : Nat} (h : xs.length ≤ i / 64) : setRow xs i = xs := by
  unfold setRow
  exact List.set_eq_of_length_le h
theorem pow_r (i : Nat) : 2 ^ (i % 64) < 18446744073709551616 := by
  have : 2 ^ (i % 64) ≤ 2 ^ 63 := Nat.pow_le_pow_right (by decide) (by omega)
  have e : (2 : Nat) ^ 63 = 9223372036854775808 := by decide
  omega
theorem setRow_word {xs : List Nat} (h : ∀ x ∈ xs, x < 18446744073709551616) (i : Nat) : ∀ x ∈ setRow xs i, x < 18446744073709551616 := by
  intro x hx
  rcases List.mem_or_eq_of_mem_set hx with hx | rfl
  · exact h x hx
  · have h1 : xs.getD (i / 64) 0 < 2 ^ 64 := by
      rw [List.getD_eq_getElem?_getD]
      rcases Nat.lt_or_ge (i / 64) xs.length with hl | hl
      · rw [List.getElem?_eq_getElem hl]; exact h _ (List.getElem_mem hl)
      · rw [List.getElem?_eq_none hl]; decide
    exact Nat.or_lt_two_pow h1 (pow_r i)
theorem tb_setRow {xs : List Nat} {i : Nat} (h : i / 64 < xs.length) (j : Nat) : tb (setRow xs i) j = (tb xs j || decide (i = j)) := by
  unfold tb setRow
  by_cases hq : i / 64 = j / 64
  · rw [List.getD_eq_getElem?_getD, ← hq, List.getElem?_set_self h, Option.getD_some, Nat.testBit_or, Nat.testBit_two_pow]
    have : (i % 64 = j % 64) ↔ i = j := by omega
    simp only [this]
  · rw [List.getD_eq_getElem?_getD, List.getElem?_set_ne hq, ← List.getD_eq_getElem?_getD]
    have : ¬ i = j := by rintro rfl; exact hq rfl
    simp [this]

/-- Does a row have this bit, and is it set? -/
def hasB (xs : List Nat) (i : Int) : Bool := if i < 0 then false else tb xs i.toNat

theorem within_neg (A : Option Addr) (n cap : Nat) (i : Int) (w : World) (h : i < 0) :
    Calls Try.prog 19 #[.slice A n cap, .int .i64 i] w fun e w' => e = .returned (.bool false) ∧ w = w' := by
  go_enter Try.func19, Try.ntmps19
  go_wp2
  go_ret
  exact ⟨rfl, rfl⟩
theorem within_in (A : Option Addr) (n cap k q : Nat) (w : World) (hq : (k : Int) / 64 = (q : Int)) (hql : (q : Int) ≤ 144115188075855871) (h : q < n) :
    Calls Try.prog 19 #[.slice A n cap, .int .i64 (k : Int)] w fun e w' => e = .returned (.bool true) ∧ w = w' := by
  go_enter Try.func19, Try.ntmps19
  go_wp2
  go_ret
  exact ⟨by simp [h], rfl⟩
theorem within_out (A : Option Addr) (n cap k q : Nat) (w : World) (hq : (k : Int) / 64 = (q : Int)) (hql : (q : Int) ≤ 144115188075855871) (h : n ≤ q) :
    Calls Try.prog 19 #[.slice A n cap, .int .i64 (k : Int)] w fun e w' => e = .returned (.bool false) ∧ w = w' := by
  go_enter Try.func19, Try.ntmps19
  go_wp2
  go_ret
  exact ⟨by simp; omega, rfl⟩

theorem bit_test (x r : Nat) (hx : x < 18446744073709551616) : (bits .and .u64 ((x : Int) / 2 ^ r) 1 == 1) = x.testBit r := by
  have h := and_u64 (x / 2 ^ r) 1 (x / 2 ^ r % 2) (Nat.lt_of_le_of_lt (Nat.div_le_self _ _) hx) (by decide) (Nat.and_one_is_mod _)
  have e : ((x / 2 ^ r : Nat) : Int) = (x : Int) / 2 ^ r := by simp
  rw [e] at h
  have h' : bits .and .u64 ((x : Int) / 2 ^ r) 1 = ((x / 2 ^ r % 2 : Nat) : Int) := h
  rw [h', bit_of_testBit]
  cases x.testBit r <;> rfl
theorem brhas_neg (A : Option Addr) (n cap : Nat) (i : Int) (w : World) (h : i < 0) :
    Calls Try.prog 14 #[.slice A n cap, .int .i64 i] w fun e w' => e = .returned (.bool false) ∧ w = w' := by
  go_enter Try.func14, Try.ntmps14
  go_wp2_with (go_at_call 19; refine (within_neg _ _ _ _ _ h).mono ?_; rintro e w' ⟨rfl, rfl⟩)
  go_ret
  exact ⟨rfl, rfl⟩
theorem brhas_out (A : Option Addr) (n cap k q : Nat) (w : World) (hq : (k : Int) / 64 = (q : Int)) (hql : (q : Int) ≤ 144115188075855871) (h : n ≤ q) :
    Calls Try.prog 14 #[.slice A n cap, .int .i64 (k : Int)] w fun e w' => e = .returned (.bool false) ∧ w = w' := by
  go_enter Try.func14, Try.ntmps14
  go_wp2_with (go_at_call 19; refine (within_out _ _ _ _ _ _ hq hql h).mono ?_; rintro e w' ⟨rfl, rfl⟩)
  go_ret
  exact ⟨rfl, rfl⟩
theorem brhas_in (b o n cap k q r : Nat) (x : Nat) (w : World) (hq : (k : Int) / 64 = (q : Int)) (hql : (q : Int) ≤ 144115188075855871) (hr : (k : Int) % 64 = (r : Int)) (h : q < n) (hc : w.cell? ⟨b, o + q, none⟩ = some (.int .u64 x)) (hx : x < 18446744073709551616) :
    Calls Try.prog 14 #[.slice (some ⟨b, o, none⟩) n cap, .int .i64 (k : Int)] w fun e w' => e = .returned (.bool (x.testBit r)) ∧ w = w' := by
  have hr2 : r < 64 := by omega
  have H := Lib.hid (bit_test x r hx)
  go_enter Try.func14, Try.ntmps14
  go_wp2_with (go_at_call 19; refine (within_in _ _ _ _ _ _ hq hql h).mono ?_; rintro e w' ⟨rfl, rfl⟩)
  go_ret
  refine ⟨?_, rfl⟩
  rw [← H.out]
  rfl
/-- 'Has' tells whether the bit is there and set. -/
theorem brhas_any (A : Option Addr) (n cap : Nat) (xs : List Nat) (i : Int) (w : World) (hil : i ≤ 9223372036854775807) (hA : RowU w A n xs) :
    Calls Try.prog 14 #[.slice A n cap, .int .i64 i] w fun e w' => e = .returned (.bool (hasB xs i)) ∧ w = w' := by
  by_cases hi : i < 0
  · rw [show hasB xs i = false from by simp [hasB, hi]]
    exact brhas_neg A n cap i w hi
  · obtain ⟨k, rfl⟩ := Int.eq_ofNat_of_zero_le (by omega : 0 ≤ i)
    have hb : hasB xs (k : Int) = tb xs k := by unfold hasB; rw [if_neg hi]; rfl
    rw [hb]
    rcases Nat.lt_or_ge (k / 64) n with h | h
    · obtain ⟨b, o, rfl, _, hc⟩ := hA.addr (by omega)
      exact brhas_in b o n cap k (k / 64) (k % 64) (xs.getD (k / 64) 0) w (by omega) (by omega) (by omega) h (hc _ h) (hA.word _)
    · rw [tb_beyond (by have := hA.len; omega)]
      exact brhas_out A n cap k (k / 64) w (by omega) (by omega) h
end Go.Proofs.Ythikjngmaekjgaa
