/-
  Contracts of wide's halves, raise, Mul, Cap.
-/
import Derived.Test.YtpalnlbdfmiadaaGreatDoorWid1
import Derived.Deep.RegionHeld3
import Derived.Deep.DrawnRows
namespace Go.Proofs.YtpalnlbdfmiadaaGreatDoor
open Go.RowKit
set_option linter.unusedVariables false
attribute [local go_sem ↓] Go.wp_at_zero Go.wp_at_succ

theorem shr_shl (n p : Nat) (hn : n ≤ 18446744073709551615) (hp : p ≤ 64) : n / 2 ^ (64 - p) = whi (n * 2 ^ p) ∧ n * 2 ^ p % 18446744073709551616 = wlo (n * 2 ^ p) := by
  refine ⟨?_, rfl⟩
  unfold whi
  have e : (18446744073709551616 : Nat) = 2 ^ (64 - p) * 2 ^ p := by rw [← Nat.pow_add, show 64 - p + p = 64 from by omega]
  have h1 : n * 2 ^ p / 18446744073709551616 = n / 2 ^ (64 - p) := by rw [e, Nat.mul_div_mul_right _ _ (Nat.two_pow_pos p)]
  rw [h1, Nat.mod_eq_of_lt]
  have := Nat.div_le_self n (2 ^ (64 - p))
  omega

theorem carry {w w' : World} {p : Addr} {v : Value} (h : w.cell? p = some v) (hb : Below w.heap.size w w') : w'.cell? p = some v := (hb.cell (cell_lt h)).trans h
theorem kept {w w' : World} {g : Nat} {o : Obj} (h : w.heap[g]? = some o) (hb : Below w.heap.size w w') : w'.heap[g]? = some o := by
  rcases Nat.lt_or_ge g w.heap.size with hlt | hge
  · exact (hb.block g hlt).trans h
  · rw [Array.getElem?_eq_none hge] at h; cases h

/-- The partial products, and their sum so far. -/
def part (a b : Nat) : Nat → Nat
  | 0 => (a % 4294967296) * (b % 4294967296)
  | 1 => (a % 4294967296) * (b / 4294967296)
  | 2 => (a / 4294967296) * (b % 4294967296)
  | _ => (a / 4294967296) * (b / 4294967296)
def lift : Nat → Nat
  | 0 => 0
  | 1 => 32
  | 2 => 32
  | _ => 64
def psum (a b : Nat) : Nat → Nat
  | 0 => 0
  | k + 1 => psum a b k + part a b k * 2 ^ lift k
theorem part_le (a b k : Nat) (ha : a ≤ 18446744073709551615) (hb : b ≤ 18446744073709551615) : part a b k ≤ 18446744065119617025 := by
  have h : ∀ x y : Nat, x ≤ 4294967295 → y ≤ 4294967295 → x * y ≤ 18446744065119617025 := fun x y hx hy => by
    have := Nat.mul_le_mul hx hy
    omega
  unfold part
  split <;> exact h _ _ (by omega) (by omega)
theorem psum_four (a b : Nat) : psum a b 4 = a * b := by
  simp only [psum, part, lift]
  have h1 : a = a / 4294967296 * 4294967296 + a % 4294967296 := by omega
  have h2 : b = b / 4294967296 * 4294967296 + b % 4294967296 := by omega
  generalize a / 4294967296 = x1 at *
  generalize a % 4294967296 = x0 at *
  generalize b / 4294967296 = y1 at *
  generalize b % 4294967296 = y0 at *
  subst h1 h2
  simp only [Nat.add_mul, Nat.mul_add]
  have e1 : x1 * 4294967296 * (y1 * 4294967296) = x1 * y1 * 2 ^ 64 := by
    rw [show (2 : Nat) ^ 64 = 4294967296 * 4294967296 from by decide, Nat.mul_mul_mul_comm]
  have e2 : x1 * 4294967296 * y0 = x1 * y0 * 2 ^ 32 := by rw [show (2 : Nat) ^ 32 = 4294967296 from by decide, Nat.mul_right_comm]
  have e3 : x0 * (y1 * 4294967296) = x0 * y1 * 2 ^ 32 := by rw [show (2 : Nat) ^ 32 = 4294967296 from by decide, Nat.mul_assoc]
  rw [e1, e2, e3]
  omega
theorem prod_lt {a b : Nat} (ha : a ≤ 18446744073709551615) (hb : b ≤ 18446744073709551615) : a * b < w128 := by
  have := Nat.mul_le_mul ha hb
  unfold w128
  omega
theorem psum_le (a b k : Nat) (hk : k ≤ 4) : psum a b k ≤ a * b := by
  rw [← psum_four]
  have h : ∀ j, psum a b j ≤ psum a b (j + 1) := fun j => by simp only [psum]; omega
  have : k = 0 ∨ k = 1 ∨ k = 2 ∨ k = 3 ∨ k = 4 := by omega
  have h0 : psum a b 0 ≤ psum a b 1 := h 0
  have h1 : psum a b 1 ≤ psum a b 2 := h 1
  have h2 : psum a b 2 ≤ psum a b 3 := h 2
  have h3 : psum a b 3 ≤ psum a b 4 := h 3
  rcases this with rfl | rfl | rfl | rfl | rfl <;> omega

theorem mul_step {a b k : Nat} (ha : a ≤ 18446744073709551615) (hb : b ≤ 18446744073709551615) (hk : k < 4) :
    psum a b (k + 1) = wnum (whi (psum a b k)) (wlo (psum a b k)) + wnum (whi (part a b k * 2 ^ lift k)) (wlo (part a b k * 2 ^ lift k)) ∧ false = decide (w128 ≤ psum a b (k + 1)) := by
  have h1 := prod_lt ha hb
  have h2 := psum_le a b (k + 1) (by omega)
  have h3 : psum a b (k + 1) = psum a b k + part a b k * 2 ^ lift k := rfl
  refine ⟨?_, by symm; simp only [decide_eq_false_iff_not]; omega⟩
  rw [wnum_words, wnum_words, Nat.mod_eq_of_lt (by omega), Nat.mod_eq_of_lt (by omega)]
  exact h3

end Go.Proofs.YtpalnlbdfmiadaaGreatDoor
