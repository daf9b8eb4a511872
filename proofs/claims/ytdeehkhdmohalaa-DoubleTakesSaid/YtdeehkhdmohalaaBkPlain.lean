/-
  Plain arithmetic of buckets: what so many bytes take, what a bucket is some time later, and how long it is until so many bytes can be taken. Nothing of the program.
-/
import Derived.Test.YtdeehkhdmohalaaWPlain
namespace Go.Proofs.Ytdeehkhdmohalaa
set_option linter.unusedVariables false

/-- What so many bytes take, and whether that is a level at all. -/
def bkIs (s : Int) : Bool := decide (0 ≤ s ∧ 1000000000 * s.toNat < 18446744073709551616)
def bkN (s : Int) : Nat := if bkIs s = true then 1000000000 * s.toNat else 0
/-- Whether they can be taken, and what is left. -/
def bkCan (l : Nat) (s : Int) : Bool := bkIs s && decide (bkN s ≤ l)
def bkLeft (l : Nat) (s : Int) : Nat := if bkCan l s = true then l - bkN s else l
/-- What is put into a bucket of a gain, and what a bucket is then. -/
def bkPut (l r G : Nat) : Nat := if G < r - l then G else r - l
/-- How long it is. -/
def bkUp (m a : Nat) : Nat := m / a + (if 0 < m % a then 1 else 0)
def bkWill (l r a : Nat) (s : Int) : Bool := bkIs s && (decide (bkN s ≤ l) || (decide (bkN s ≤ r) && decide (0 < a)))
def bkTime (l r a : Nat) (s : Int) : Nat := if bkIs s = true then (if bkN s ≤ l then 0 else if r < bkN s ∨ a = 0 then 0 else bkUp (bkN s - l) a) else 0

theorem bkN_le (s : Int) : bkN s ≤ 18446744073709551615 := by
  unfold bkN bkIs
  split
  · rename_i h; have := of_decide_eq_true h; omega
  · omega
theorem bkneed_neg {s : Int} (h : s < 0) : bkN s = 0 ∧ bkIs s = false := by
  have h2 : bkIs s = false := decide_eq_false (fun k => by omega)
  exact ⟨by unfold bkN; rw [h2]; rfl, h2⟩
theorem whi_small {x : Nat} (h : x < 18446744073709551616) : whi x = 0 := by
  unfold whi
  rw [Nat.div_eq_of_lt h]
theorem whi_null {x : Nat} (h : whi x = 0) (hx : x < w128) : x < 18446744073709551616 := by
  unfold whi at h
  unfold w128 at hx
  have h1 : x / 18446744073709551616 < 18446744073709551616 := by omega
  rw [Nat.mod_eq_of_lt h1] at h
  omega
theorem billion {n : Nat} (hn : n ≤ 9223372036854775807) : 1000000000 * n < w128 := by unfold w128; omega
theorem bkIs_nat (n : Nat) : bkIs (n : Int) = decide (1000000000 * n < 18446744073709551616) := by
  unfold bkIs
  rw [Int.toNat_natCast]
  congr 1
  exact propext ⟨fun h => h.2, fun h => ⟨Int.natCast_nonneg n, h⟩⟩
theorem bkneed_far {n : Nat} (h : whi (1000000000 * n) ≠ 0) (hn : n ≤ 9223372036854775807) : bkN (n : Int) = 0 ∧ bkIs (n : Int) = false := by
  have h2 : bkIs (n : Int) = false := by
    rw [bkIs_nat]
    exact decide_eq_false fun k => h (whi_small k)
  exact ⟨by unfold bkN; rw [h2]; rfl, h2⟩
theorem bkneed_near {n : Nat} (h : whi (1000000000 * n) = 0) (hn : n ≤ 9223372036854775807) : bkN (n : Int) = wlo (1000000000 * n) ∧ bkIs (n : Int) = true := by
  have h1 : 1000000000 * n < 18446744073709551616 := whi_null h (billion hn)
  have h2 : bkIs (n : Int) = true := by rw [bkIs_nat]; exact decide_eq_true h1
  refine ⟨?_, h2⟩
  unfold bkN
  rw [h2, if_pos rfl, Int.toNat_natCast]
  unfold wlo
  rw [Nat.mod_eq_of_lt h1]
theorem bkPut_le (l r G : Nat) : bkPut l r G ≤ G ∧ bkPut l r G ≤ r - l := by unfold bkPut; split <;> omega
theorem bk_level {l r G : Nat} (hl : l ≤ 18446744073709551615) (hr : r ≤ 18446744073709551615) : l + bkPut l r G ≤ 18446744073709551615 := by have := (bkPut_le l r G).2; omega
theorem bkLeft_le (l : Nat) (s : Int) : bkLeft l s ≤ l := by unfold bkLeft; split <;> omega
theorem bkleft_cant {l : Nat} {s : Int} (h : bkCan l s = false) : bkLeft l s = l := by unfold bkLeft; rw [h]; rfl
theorem bkleft_can {l : Nat} {s : Int} (h : bkCan l s = true) : bkLeft l s = l - bkN s ∧ bkN s ≤ l ∧ bkIs s = true := by
  refine ⟨by unfold bkLeft; rw [h]; rfl, ?_, ?_⟩
  · unfold bkCan at h; exact of_decide_eq_true (Bool.and_eq_true _ _ |>.mp h).2
  · unfold bkCan at h; exact (Bool.and_eq_true _ _ |>.mp h).1
/-- A gain that is a product of two words. -/
theorem mul_words {a b : Nat} (ha : a ≤ 18446744073709551615) (hb : b ≤ 18446744073709551615) : a * b < w128 := by
  have := Nat.mul_le_mul ha hb
  unfold w128
  omega
theorem up_le {m a : Nat} (hm : m ≤ 18446744073709551615) (ha : 0 < a) : bkUp m a ≤ 18446744073709551615 := by
  unfold bkUp
  have h1 := Nat.div_le_self m a
  split
  · rename_i h
    have h3 : a ≠ 1 := by rintro rfl; rw [Nat.mod_one] at h; omega
    have h4 : m / a ≤ m / 2 := Nat.div_le_div_left (by omega) (by omega)
    omega
  · omega
theorem bkTime_le (l r a : Nat) (s : Int) : bkTime l r a s ≤ 18446744073709551615 := by
  unfold bkTime
  split
  · split
    · omega
    · split
      · omega
      · rename_i h1 h2
        refine up_le ?_ (by omega)
        have := bkN_le s
        omega
  · omega
end Go.Proofs.Ytdeehkhdmohalaa
