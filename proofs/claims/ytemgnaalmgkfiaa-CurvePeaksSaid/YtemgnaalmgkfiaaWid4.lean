/-
  Contracts of wide's Div and Cap.
-/
import Derived.Test.YtemgnaalmgkfiaaWid3
namespace Go.Proofs.Ytemgnaalmgkfiaa
open Go.RowKit
set_option linter.unusedVariables false
attribute [local go_sem ↓] Go.wp_at_zero Go.wp_at_succ

theorem quot_words {a b n : Nat} (hn : 0 < n) (ha : a ≤ 18446744073709551615) (hb : b ≤ 18446744073709551615) : a / n = whi (wnum a b / n) ∧ wnum (a % n) b / n = wlo (wnum a b / n) ∧ wnum (a % n) b % n = wnum a b % n := by
  have d := Nat.div_add_mod a n
  have e : wnum a b = a / n * 18446744073709551616 * n + wnum (a % n) b := by
    have e2 : a / n * 18446744073709551616 * n = n * (a / n) * 18446744073709551616 := by rw [Nat.mul_right_comm, Nat.mul_comm n]
    rw [e2]
    unfold wnum
    omega
  have l : wnum (a % n) b / n < 18446744073709551616 := by
    refine (Nat.div_lt_iff_lt_mul hn).2 ?_
    have := Nat.mod_lt a hn
    unfold wnum
    generalize a % n = r at *
    have := Nat.mul_le_mul_right 18446744073709551616 (Nat.succ_le_of_lt this)
    rw [Nat.mul_comm] 
    omega
  have q : wnum a b / n = a / n * 18446744073709551616 + wnum (a % n) b / n := by rw [e, Nat.add_comm, Nat.add_mul_div_right _ _ hn, Nat.add_comm]
  have r : wnum a b % n = wnum (a % n) b % n := by rw [e, Nat.add_comm, Nat.add_mul_mod_self_right]
  have la := Nat.div_le_self a n
  rw [q, r]
  generalize wnum (a % n) b / n = y at *
  generalize a / n = x at *
  unfold whi wlo
  refine ⟨by omega, by omega, rfl⟩

theorem div_zero (a b : Nat) (w : World) : Calls Try.prog 28 #[.agg #[.int .u64 a, .int .u64 b], .int .u64 0] w fun e w' => e = .returned (.tuple #[.agg #[.int .u64 0, .int .u64 0], .int .u64 0]) ∧ Below w.heap.size w w' := by
  go_enter Try.func28, Try.ntmps28
  go_wp2_with fail
  go_returns
  exact ⟨rfl, below_two _ _ _⟩

theorem div_any (a b n N : Nat) (w : World) (hn : 0 < n) (hN : Hid (N = wnum a b)) (ha : a ≤ 18446744073709551615) (hb : b ≤ 18446744073709551615) (hn2 : n ≤ 18446744073709551615) :
    Calls Try.prog 28 #[.agg #[.int .u64 a, .int .u64 b], .int .u64 n] w fun e w' =>
      e = .returned (.tuple #[.agg #[.int .u64 (whi (N / n) : Nat), .int .u64 (wlo (N / n) : Nat)], .int .u64 (N % n : Nat)]) ∧ Below w.heap.size w w' := by
  obtain ⟨f1, f2, f3⟩ := quot_words hn ha hb
  rw [← hN.out] at f1 f2 f3
  have q1 : ¬ (n : Int) = 0 := by omega
  have hle : a % n ≤ 18446744073709551615 := Nat.le_trans (Nat.mod_le a n) ha
  have H1 : Hid (∀ (w : World) (k : Nat), Calls Try.prog 42 #[.int .u64 (a % n : Nat), .int .u64 b, .int .u64 n] (w.drewN k) fun e w'' => e = .returned (.tuple #[.int .u64 (wlo (N / n) : Nat), .int .u64 (N % n : Nat)]) ∧ ∃ m, w'' = w.drewN m) := by
    intro w k
    have h := div64_any (a % n) b n (w.drewN k) (Nat.mod_lt a hn) hb hn2
    rw [f2, f3] at h
    exact quiet_quiet h
  have k1 : IntKind.u64.wrap ((a : Int) / (n : Int)) = ((whi (N / n) : Nat) : Int) := by rw [← f1]; exact wrap_div a n ha
  clear f1 f2 f3
  go_enter Try.func28, Try.ntmps28
  go_wp2_with fail
  go_quiet ((go_at_call 42; exact H1.out _ _))
  go_wp2
  go_returns
  refine ⟨by simp, ((below_drewN' (below_two _ _ _) _).setCell (by simp) _).setCell (by simp) _⟩

/-- A number of two words lies in block g; nothing below w's blocks is touched. -/
def Boxed (w : World) (g a b : Nat) (W : World) : Prop :=
  W.cell? ⟨g, 0, none⟩ = some (.int .u64 a) ∧ W.cell? ⟨g, 1, none⟩ = some (.int .u64 b) ∧ Below w.heap.size w W
theorem Boxed.start (w : World) (a b : Nat) : Boxed w w.heap.size a b (w.alloc (.cells #[.int .u64 a, .int .u64 b] 42)) :=
  ⟨cell_of_row _ w.heap.size 0 _ _ _ (heap_alloc_new w _), cell_of_row _ w.heap.size 1 _ _ _ (heap_alloc_new w _), (Below.refl _ _).alloc (Nat.le_refl _) _⟩
theorem Boxed.drew {w W : World} {g a b : Nat} (h : Boxed w g a b W) : Boxed w g a b W.drew := ⟨h.1, h.2.1, h.2.2.drew⟩
theorem Boxed.below {w W W' : World} {g a b : Nat} (h : Boxed w g a b W) (hb : Below W.heap.size W W') : Boxed w g a b W' := ⟨carry h.1 hb, carry h.2.1 hb, below_both h.2.2 hb⟩

end Go.Proofs.Ytemgnaalmgkfiaa
