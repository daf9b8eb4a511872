/-
  Contracts of octet's small tests and of the document's tests of a place, and of SameBytes at equal bytes.
-/
import Derived.Test.YtdeecobpglfgaaaDoorBase
namespace Go.Proofs.YtdeecobpglfgaaaDoor
open Go.RowKit
set_option linter.unusedVariables false

theorem place_range (A : Option Addr) (n cap : Nat) (a m : Int) (w : World) (h : m < 1 ∨ 8 < m ∨ a < 0) :
    Calls Tryd.prog 99 #[.slice A n cap, .int .i64 a, .int .i64 m] w fun e w' => e = .returned (.int .i64 1) ∧ w = w' := by
  by_cases h1 : m < 1
  · clear h
    go_enter Tryd.func99, Tryd.ntmps99
    go_wp2
    go_ret
    exact ⟨rfl, rfl⟩
  · by_cases h2 : 8 < m
    · clear h
      go_enter Tryd.func99, Tryd.ntmps99
      go_wp2
      go_ret
      exact ⟨rfl, rfl⟩
    · have h3 : a < 0 := by omega
      clear h
      go_enter Tryd.func99, Tryd.ntmps99
      go_wp2
      go_ret
      exact ⟨rfl, rfl⟩
theorem place_short (A : Option Addr) (n cap : Nat) (a m : Int) (w : World) (hn : n ≤ 9223372036854775807) (ha : 0 ≤ a) (ha' : a ≤ 9223372036854775807) (h1 : 1 ≤ m) (h2 : m ≤ 8) (h : n < a + m) :
    Calls Tryd.prog 99 #[.slice A n cap, .int .i64 a, .int .i64 m] w fun e w' => e = .returned (.int .i64 2) ∧ w = w' := by
  go_enter Tryd.func99, Tryd.ntmps99
  go_wp2
  go_ret
  exact ⟨rfl, rfl⟩
theorem place_ok (A : Option Addr) (n cap : Nat) (a m : Int) (w : World) (hn : n ≤ 9223372036854775807) (ha : 0 ≤ a) (h1 : 1 ≤ m) (h2 : m ≤ 8) (h : a + m ≤ n) :
    Calls Tryd.prog 99 #[.slice A n cap, .int .i64 a, .int .i64 m] w fun e w' => e = .returned (.int .i64 0) ∧ w = w' := by
  go_enter Tryd.func99, Tryd.ntmps99
  go_wp2
  go_ret
  exact ⟨rfl, rfl⟩

end Go.Proofs.YtdeecobpglfgaaaDoor
