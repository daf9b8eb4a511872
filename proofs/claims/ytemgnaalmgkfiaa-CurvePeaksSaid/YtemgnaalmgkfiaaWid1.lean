/-
  Contracts of wide's Of, Less, Add, Sub, over the two words of a number.
-/
import Derived.Test.YtemgnaalmgkfiaaBase
import Derived.Test.YtemgnaalmgkfiaaWPlain
import Derived.Handy
import Derived.Shelf.Spec.BitsCarry
namespace Go.Proofs.Ytemgnaalmgkfiaa
open Go.RowKit
set_option linter.unusedVariables false

theorem call_add64 (x y c : Nat) (hc : c ≤ 1) (w : World) :
    (callFunc 35 #[.int .u64 x, .int .u64 y, .int .u64 c]).run Try.prog w = .ok (.value (.tuple #[.int .u64 (((x + y + c) % 18446744073709551616 : Nat) : Int), .int .u64 (((x + y + c) / 18446744073709551616 : Nat) : Int)])) w := by
  rw [run_callFunc_extern Try.func35 (by kernel_rfl) (by kernel_rfl) (by kernel_rfl) (e := add64Entry) (by kernel_rfl), run_add64 x y c (by omega) (by omega) (by omega) (by omega)]
  simp only [Result.andThen]
  congr 5 <;> omega
theorem call_sub64 (x y b : Nat) (hb : b ≤ 1) (w : World) :
    (callFunc 48 #[.int .u64 x, .int .u64 y, .int .u64 b]).run Try.prog w = .ok (.value (.tuple #[.int .u64 (((x + 18446744073709551616 - y - b) % 18446744073709551616 : Nat) : Int), .int .u64 ((if x < y + b then 1 else 0 : Nat) : Int)])) w := by
  rw [run_callFunc_extern Try.func48 (by kernel_rfl) (by kernel_rfl) (by kernel_rfl) (e := sub64Entry) (by kernel_rfl), run_sub64 x y b hb]
  rfl

theorem of_any (n : Nat) (w : World) : Calls Try.prog 29 #[.int .u64 n] w fun e w' => e = .returned (.agg #[.int .u64 0, .int .u64 n]) ∧ Below w.heap.size w w' := by
  go_enter Try.func29, Try.ntmps29
  go_wp2
  go_returns
  exact ⟨rfl, (Below.refl _ _).alloc (Nat.le_refl _) _⟩

theorem below_two (w : World) (o1 o2 : Obj) : Below w.heap.size w ((w.alloc o1).alloc o2) := ((Below.refl _ _).alloc (Nat.le_refl _) o1).alloc (by simp) o2
theorem below_three (w : World) (o1 o2 o3 : Obj) : Below w.heap.size w (((w.alloc o1).alloc o2).alloc o3) := (below_two w o1 o2).alloc (by simp; omega) o3

theorem less_yes (a b c d : Nat) (w : World) (hb : b ≤ 18446744073709551615) (hd : d ≤ 18446744073709551615) (h : Hid (wnum a b < wnum c d)) :
    Calls Try.prog 20 #[.agg #[.int .u64 a, .int .u64 b], .agg #[.int .u64 c, .int .u64 d]] w fun e w' => e = .returned (.bool true) ∧ Below w.heap.size w w' := by
  have h1 := (less_words hb hd).1 h.out
  clear h
  by_cases hac : a = c
  · subst hac
    have h2 : b < d := by omega
    clear h1
    go_enter Try.func20, Try.ntmps20
    go_wp2
    go_ret
    exact ⟨by simp <;> omega, below_two _ _ _⟩
  · have h2 : a < c := by omega
    clear h1
    go_enter Try.func20, Try.ntmps20
    go_wp2
    go_ret
    exact ⟨by simp <;> omega, below_two _ _ _⟩
theorem less_no (a b c d : Nat) (w : World) (hb : b ≤ 18446744073709551615) (hd : d ≤ 18446744073709551615) (h : Hid (¬ wnum a b < wnum c d)) :
    Calls Try.prog 20 #[.agg #[.int .u64 a, .int .u64 b], .agg #[.int .u64 c, .int .u64 d]] w fun e w' => e = .returned (.bool false) ∧ Below w.heap.size w w' := by
  have h1 : ¬ (a < c ∨ (a = c ∧ b < d)) := fun h' => h.out ((less_words hb hd).2 h')
  clear h
  by_cases hac : a = c
  · subst hac
    have h2 : d ≤ b := by omega
    clear h1
    go_enter Try.func20, Try.ntmps20
    go_wp2
    go_ret
    exact ⟨by simp <;> omega, below_two _ _ _⟩
  · have h2 : c < a := by omega
    clear h1
    go_enter Try.func20, Try.ntmps20
    go_wp2
    go_ret
    exact ⟨by simp <;> omega, below_two _ _ _⟩

theorem add_raw (a b c d S : Nat) (v : Bool) (w : World) (ha : a ≤ 18446744073709551615) (hb : b ≤ 18446744073709551615) (hc : c ≤ 18446744073709551615) (hd : d ≤ 18446744073709551615)
    (hS : Hid (S = wnum a b + wnum c d)) (hv : Hid (v = decide (w128 ≤ S))) :
    Calls Try.prog 18 #[.agg #[.int .u64 a, .int .u64 b], .agg #[.int .u64 c, .int .u64 d]] w fun e w' =>
      e = .returned (.tuple #[.agg #[.int .u64 (whi S), .int .u64 (wlo S)], .bool v]) ∧ Below w.heap.size w w' := by
  obtain ⟨h1, h2, h3, h4, h5⟩ := add_words ha hb hc hd
  obtain ⟨k, hk⟩ : ∃ k, k = (b + d + 0) / 18446744073709551616 := ⟨_, rfl⟩
  rw [← hk] at h2 h3 h4 h5
  obtain ⟨k2, hk2⟩ : ∃ k2, k2 = (a + c + k) / 18446744073709551616 := ⟨_, rfl⟩
  rw [← hk2] at h4 h5
  rw [← hS.out] at h1 h3 h4
  have c1 : ∀ w : World, (callFunc 35 #[.int .u64 b, .int .u64 d, .int .u64 0]).run Try.prog w = .ok (.value (.tuple #[.int .u64 (wlo S : Nat), .int .u64 (k : Nat)])) w := fun w => by
    have := call_add64 b d 0 (by omega) w
    rw [h1, ← hk] at this
    exact this
  have c2 : ∀ w : World, (callFunc 35 #[.int .u64 a, .int .u64 c, .int .u64 k]).run Try.prog w = .ok (.value (.tuple #[.int .u64 (whi S : Nat), .int .u64 (k2 : Nat)])) w := fun w => by
    have := call_add64 a c k h2 w
    rw [h3, ← hk2] at this
    exact this
  have HV : Hid (((k2 : Int) != 0) = v) := by
    show ((k2 : Int) != 0) = v
    rw [hv.out, Bool.eq_iff_iff]
    simp only [bne_iff_ne, decide_eq_true_eq]
    rw [← h4]
    omega
  clear h1 h3 h4 hk hk2
  go_enter Try.func18, Try.ntmps18
  go_wp2
  go_returns
  exact ⟨by rw [HV.out], below_three _ _ _ _⟩
theorem sub_raw (a b c d S : Nat) (v : Bool) (w : World) (ha : a ≤ 18446744073709551615) (hb : b ≤ 18446744073709551615) (hc : c ≤ 18446744073709551615) (hd : d ≤ 18446744073709551615)
    (hS : Hid (S = wnum a b + w128 - wnum c d)) (hv : Hid (v = decide (wnum a b < wnum c d))) :
    Calls Try.prog 45 #[.agg #[.int .u64 a, .int .u64 b], .agg #[.int .u64 c, .int .u64 d]] w fun e w' =>
      e = .returned (.tuple #[.agg #[.int .u64 (whi S), .int .u64 (wlo S)], .bool v]) ∧ Below w.heap.size w w' := by
  obtain ⟨k, hk⟩ : ∃ k, k = if b < d + 0 then 1 else 0 := ⟨_, rfl⟩
  obtain ⟨h1, h2, h3, h4⟩ := sub_words ha hb hc hd k hk
  obtain ⟨k2, hk2⟩ : ∃ k2, k2 = if a < c + k then 1 else 0 := ⟨_, rfl⟩
  rw [← hk2] at h4
  rw [← hS.out] at h1 h3
  have c1 : ∀ w : World, (callFunc 48 #[.int .u64 b, .int .u64 d, .int .u64 0]).run Try.prog w = .ok (.value (.tuple #[.int .u64 (wlo S : Nat), .int .u64 (k : Nat)])) w := fun w => by
    have := call_sub64 b d 0 (by omega) w
    rw [h1, ← hk] at this
    exact this
  have c2 : ∀ w : World, (callFunc 48 #[.int .u64 a, .int .u64 c, .int .u64 k]).run Try.prog w = .ok (.value (.tuple #[.int .u64 (whi S : Nat), .int .u64 (k2 : Nat)])) w := fun w => by
    have := call_sub64 a c k h2 w
    rw [h3, ← hk2] at this
    exact this
  have HV : Hid (((k2 : Int) != 0) = v) := by
    show ((k2 : Int) != 0) = v
    rw [hv.out, Bool.eq_iff_iff]
    simp only [bne_iff_ne, decide_eq_true_eq]
    rw [← h4]
    omega
  clear h1 h3 h4 hk hk2
  go_enter Try.func45, Try.ntmps45
  go_wp2
  go_returns
  exact ⟨by rw [HV.out], below_three _ _ _ _⟩
end Go.Proofs.Ytemgnaalmgkfiaa
