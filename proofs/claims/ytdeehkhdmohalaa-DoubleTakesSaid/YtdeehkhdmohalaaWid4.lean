/-
  Contracts of wide's Div and Cap.
-/
import Derived.Test.YtdeehkhdmohalaaWid3
namespace Go.Proofs.Ytdeehkhdmohalaa
open Go.RowKit
set_option linter.unusedVariables false
attribute [local go_sem ↓] Go.wp_at_zero Go.wp_at_succ

theorem quot_words {a b n : Nat} (hn : 0 < n) (ha : a ≤ 18446744073709551615) (hb : b ≤ 18446744073709551615) : a / n = whi (wnum a b / n) ∧ wnum (a % n) b / n = wlo (wnum a b / n) ∧ wnum (a % n) b % n = wnum a b % n := by
  have d := Nat.div_add_mod a n
  have e : wnum a b = a / n * 18446744073709551616 * n + wnum (a % n) b := by
    have e2 : a / n * 18446744073709551616 * n = n * (a / n) * 18446744073709551616 := by rw [Nat.mul_right_comm, Nat.mul_comm n]
    rw [e2]
    unfold wnum
    omega
  have l : wnum (a % n) b / n < 18446744073709551616 := by
    refine (Nat.div_lt_iff_lt_mul hn).2 ?_
    have := Nat.mod_lt a hn
    unfold wnum
    generalize a % n = r at *
    have := Nat.mul_le_mul_right 18446744073709551616 (Nat.succ_le_of_lt this)
    rw [Nat.mul_comm] 
    omega
  have q : wnum a b / n = a / n * 18446744073709551616 + wnum (a % n) b / n := by rw [e, Nat.add_comm, Nat.add_mul_div_right _ _ hn, Nat.add_comm]
  have r : wnum a b % n = wnum (a % n) b % n := by rw [e, Nat.add_comm, Nat.add_mul_mod_self_right]
  have la := Nat.div_le_self a n
  rw [q, r]
  generalize wnum (a % n) b / n = y at *
  generalize a / n = x at *
  unfold whi wlo
  refine ⟨by omega, by omega, rfl⟩

/-- A number of two words lies in block g; nothing below w's blocks is touched. -/
def Boxed (w : World) (g a b : Nat) (W : World) : Prop :=
  W.cell? ⟨g, 0, none⟩ = some (.int .u64 a) ∧ W.cell? ⟨g, 1, none⟩ = some (.int .u64 b) ∧ Below w.heap.size w W
theorem Boxed.start (w : World) (a b : Nat) : Boxed w w.heap.size a b (w.alloc (.cells #[.int .u64 a, .int .u64 b] 54)) :=
  ⟨cell_of_row _ w.heap.size 0 _ _ _ (heap_alloc_new w _), cell_of_row _ w.heap.size 1 _ _ _ (heap_alloc_new w _), (Below.refl _ _).alloc (Nat.le_refl _) _⟩
theorem Boxed.drew {w W : World} {g a b : Nat} (h : Boxed w g a b W) : Boxed w g a b W.drew := ⟨h.1, h.2.1, h.2.2.drew⟩
theorem Boxed.below {w W W' : World} {g a b : Nat} (h : Boxed w g a b W) (hb : Below W.heap.size W W') : Boxed w g a b W' := ⟨carry h.1 hb, carry h.2.1 hb, below_both h.2.2 hb⟩

theorem cap_less (a b m : Nat) (w : World) (ha : a ≤ 18446744073709551615) (hb : b ≤ 18446744073709551615) (hm : m ≤ 18446744073709551615) (h : Hid (wnum a b < m)) :
    Calls Try.prog 33 #[.agg #[.int .u64 a, .int .u64 b], .int .u64 m] w fun e w' => e = .returned (.int .u64 b) ∧ Below w.heap.size w w' := by
  have H : Hid (wnum a b < wnum 0 m) := by rw [wnum_zero]; exact h
  have HL : Hid (∀ w : World, Calls Try.prog 42 #[.agg #[.int .u64 a, .int .u64 b], .agg #[.int .u64 0, .int .u64 m]] w fun e w' => e = .returned (.bool true) ∧ Below w.heap.size w w') := fun w => less_yes a b 0 m w hb hm H
  have K := Lib.hid (Boxed.start w a b)
  have c0 := K.out.1
  have c1 := K.out.2.1
  simp at c0 c1
  go_enter Try.func33, Try.ntmps33
  go_wp2_with fail
  go_region_with (first
    | ((with_reducible refine (of_any _ _).mono ?_); rintro e w' ⟨rfl, hb'⟩; have K := Lib.hid (K.out.drew.below hb'); have c0 := K.out.1; have c1 := K.out.2.1)
    | ((with_reducible refine (HL.out _).mono ?_); rintro e w' ⟨rfl, hb'⟩; have K := Lib.hid (K.out.below hb'); have c0 := K.out.1; have c1 := K.out.2.1)
    | fail)
  all_goals
    go_wp2
    go_ret
    exact ⟨rfl, K.out.2.2⟩
theorem cap_most (a b m : Nat) (w : World) (ha : a ≤ 18446744073709551615) (hb : b ≤ 18446744073709551615) (hm : m ≤ 18446744073709551615) (h : Hid (¬ wnum a b < m)) :
    Calls Try.prog 33 #[.agg #[.int .u64 a, .int .u64 b], .int .u64 m] w fun e w' => e = .returned (.int .u64 m) ∧ Below w.heap.size w w' := by
  have H : Hid (¬ wnum a b < wnum 0 m) := by rw [wnum_zero]; exact h
  have HL : Hid (∀ w : World, Calls Try.prog 42 #[.agg #[.int .u64 a, .int .u64 b], .agg #[.int .u64 0, .int .u64 m]] w fun e w' => e = .returned (.bool false) ∧ Below w.heap.size w w') := fun w => less_no a b 0 m w hb hm H
  have K := Lib.hid (Boxed.start w a b)
  have c0 := K.out.1
  have c1 := K.out.2.1
  simp at c0 c1
  go_enter Try.func33, Try.ntmps33
  go_wp2_with fail
  go_region_with (first
    | ((with_reducible refine (of_any _ _).mono ?_); rintro e w' ⟨rfl, hb'⟩; have K := Lib.hid (K.out.drew.below hb'); have c0 := K.out.1; have c1 := K.out.2.1)
    | ((with_reducible refine (HL.out _).mono ?_); rintro e w' ⟨rfl, hb'⟩; have K := Lib.hid (K.out.below hb'); have c0 := K.out.1; have c1 := K.out.2.1)
    | fail)
  all_goals
    go_wp2
    go_ret
    exact ⟨rfl, K.out.2.2⟩
end Go.Proofs.Ytdeehkhdmohalaa
