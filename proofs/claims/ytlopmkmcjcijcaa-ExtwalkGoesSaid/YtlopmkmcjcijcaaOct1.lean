/-
  Contracts of octet's small tests and of the document's tests of a place, and of SameBytes at equal bytes.
-/
import Derived.Test.YtlopmkmcjcijcaaBase
namespace Go.Proofs.Ytlopmkmcjcijcaa
open Go.RowKit
set_option linter.unusedVariables false

theorem numbered_yes (at' width : Int) (w : World) (h1 : 1 ≤ width) (h2 : width ≤ 8) (h3 : 0 ≤ at') :
    Calls Try.prog 85 #[.int .i64 at', .int .i64 width] w fun e w' => e = .returned (.bool true) ∧ w = w' := by
  go_enter Try.func85, Try.ntmps85
  go_wp2
  go_ret
  exact ⟨rfl, rfl⟩
theorem numbered_no (at' width : Int) (w : World) (h : width < 1 ∨ 8 < width ∨ at' < 0) :
    Calls Try.prog 85 #[.int .i64 at', .int .i64 width] w fun e w' => e = .returned (.bool false) ∧ w = w' := by
  by_cases h1 : 1 ≤ width
  · by_cases h2 : width ≤ 8
    · have h3 : at' < 0 := by omega
      clear h
      go_enter Try.func85, Try.ntmps85
      go_wp2
      go_ret
      exact ⟨by simp; omega, rfl⟩
    · clear h
      go_enter Try.func85, Try.ntmps85
      go_wp2
      go_ret
      exact ⟨rfl, rfl⟩
  · clear h
    go_enter Try.func85, Try.ntmps85
    go_wp2
    go_ret
    exact ⟨rfl, rfl⟩

theorem holds_yes (A : Option Addr) (n cap : Nat) (a m : Int) (w : World) (hn : n ≤ 9223372036854775807) (ha : 0 ≤ a) (hm : 0 ≤ m) (h : a + m ≤ n) :
    Calls Try.prog 84 #[.slice A n cap, .int .i64 a, .int .i64 m] w fun e w' => e = .returned (.bool true) ∧ w = w' := by
  go_enter Try.func84, Try.ntmps84
  go_wp2
  go_ret
  exact ⟨by simp; omega, rfl⟩
theorem holds_no (A : Option Addr) (n cap : Nat) (a m : Int) (w : World) (hn : n ≤ 9223372036854775807) (ha : 0 ≤ a) (hm : 0 ≤ m) (h : n < a + m) :
    Calls Try.prog 84 #[.slice A n cap, .int .i64 a, .int .i64 m] w fun e w' => e = .returned (.bool false) ∧ w = w' := by
  by_cases h1 : a ≤ n
  · go_enter Try.func84, Try.ntmps84
    go_wp2
    go_ret
    exact ⟨by simp; omega, rfl⟩
  · go_enter Try.func84, Try.ntmps84
    go_wp2
    go_ret
    exact ⟨rfl, rfl⟩

theorem place_range (A : Option Addr) (n cap : Nat) (a m : Int) (w : World) (h : m < 1 ∨ 8 < m ∨ a < 0) :
    Calls Try.prog 96 #[.slice A n cap, .int .i64 a, .int .i64 m] w fun e w' => e = .returned (.int .i64 1) ∧ w = w' := by
  by_cases h1 : m < 1
  · clear h
    go_enter Try.func96, Try.ntmps96
    go_wp2
    go_ret
    exact ⟨rfl, rfl⟩
  · by_cases h2 : 8 < m
    · clear h
      go_enter Try.func96, Try.ntmps96
      go_wp2
      go_ret
      exact ⟨rfl, rfl⟩
    · have h3 : a < 0 := by omega
      clear h
      go_enter Try.func96, Try.ntmps96
      go_wp2
      go_ret
      exact ⟨rfl, rfl⟩
theorem place_short (A : Option Addr) (n cap : Nat) (a m : Int) (w : World) (hn : n ≤ 9223372036854775807) (ha : 0 ≤ a) (ha' : a ≤ 9223372036854775807) (h1 : 1 ≤ m) (h2 : m ≤ 8) (h : n < a + m) :
    Calls Try.prog 96 #[.slice A n cap, .int .i64 a, .int .i64 m] w fun e w' => e = .returned (.int .i64 2) ∧ w = w' := by
  go_enter Try.func96, Try.ntmps96
  go_wp2
  go_ret
  exact ⟨rfl, rfl⟩
theorem place_ok (A : Option Addr) (n cap : Nat) (a m : Int) (w : World) (hn : n ≤ 9223372036854775807) (ha : 0 ≤ a) (h1 : 1 ≤ m) (h2 : m ≤ 8) (h : a + m ≤ n) :
    Calls Try.prog 96 #[.slice A n cap, .int .i64 a, .int .i64 m] w fun e w' => e = .returned (.int .i64 0) ∧ w = w' := by
  go_enter Try.func96, Try.ntmps96
  go_wp2
  go_ret
  exact ⟨rfl, rfl⟩

/-- Equal bytes are the same. -/
theorem same_yes (A B : Option Addr) (n c d : Nat) (bs : List Nat) (w : World) (hn : n ≤ 9223372036854775807) (hA : Row w A n bs) (hB : Row w B n bs) :
    Calls Try.prog 29 #[.slice A n c, .slice B n d] w fun e w' => e = .returned (.bool true) ∧ Below w.heap.size w w' := by
  rcases Nat.eq_zero_or_pos n with h0 | h0
  · subst h0
    clear hA hB
    go_enter Try.func29, Try.ntmps29
    go_wp2
    refine wp_loop_rounds 1 ?_
    rw [rounds_succ]
    go_wp2
    go_ret
    exact ⟨rfl, Below.refl _ _⟩
  · obtain ⟨b, o, rfl, hb, hc⟩ := hA.addr h0
    obtain ⟨b2, o2, rfl, hb2, hc2⟩ := hB.addr h0
    have HC := Lib.hid hc
    have HC2 := Lib.hid hc2
    clear hc hc2 hA hB
    go_enter Try.func29, Try.ntmps29
    go_wp2
    go_loopw [5] (fun i wr => ∃ k q : Nat, k ≤ n ∧ i = .int .i64 k ∧ wr = w.drewN q) (fun i _ => n - (intOf i).toNat)
    case atStart => exact ⟨0, 0, Nat.zero_le _, rfl, rfl⟩
    case round =>
      obtain ⟨k, q, hk, rfl, rfl⟩ := hrel
      by_cases hlt : k < n
      · have h1 := HC.out k hlt
        have h2 := HC2.out k hlt
        go_wp2
        go_quiet (fail)
        go_wp2
        go_roundw
        case rel => exact ⟨k + 1, q + nq, by omega, by go_num, rfl⟩
        case measure => simp [intOf]; omega
      · go_wp2
        go_ret
        exact ⟨rfl, below_drewN' (Below.refl _ _) _⟩
end Go.Proofs.Ytlopmkmcjcijcaa
