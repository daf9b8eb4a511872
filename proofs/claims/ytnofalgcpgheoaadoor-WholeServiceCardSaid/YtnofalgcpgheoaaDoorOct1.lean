/-
  Contracts of octet's small tests and of the document's tests of a place, and of SameBytes at equal bytes.
-/
import Derived.Test.YtnofalgcpgheoaaDoorBase
namespace Go.Proofs.YtnofalgcpgheoaaDoor
open Go.RowKit
set_option linter.unusedVariables false

theorem numbered_yes (at' width : Int) (w : World) (h1 : 1 ≤ width) (h2 : width ≤ 8) (h3 : 0 ≤ at') :
    Calls Tryd.prog 37 #[.int .i64 at', .int .i64 width] w fun e w' => e = .returned (.bool true) ∧ w = w' := by
  go_enter Tryd.func37, Tryd.ntmps37
  go_wp2
  go_ret
  exact ⟨rfl, rfl⟩
theorem numbered_no (at' width : Int) (w : World) (h : width < 1 ∨ 8 < width ∨ at' < 0) :
    Calls Tryd.prog 37 #[.int .i64 at', .int .i64 width] w fun e w' => e = .returned (.bool false) ∧ w = w' := by
  by_cases h1 : 1 ≤ width
  · by_cases h2 : width ≤ 8
    · have h3 : at' < 0 := by omega
      clear h
      go_enter Tryd.func37, Tryd.ntmps37
      go_wp2
      go_ret
      exact ⟨by simp; omega, rfl⟩
    · clear h
      go_enter Tryd.func37, Tryd.ntmps37
      go_wp2
      go_ret
      exact ⟨rfl, rfl⟩
  · clear h
    go_enter Tryd.func37, Tryd.ntmps37
    go_wp2
    go_ret
    exact ⟨rfl, rfl⟩

theorem holds_yes (A : Option Addr) (n cap : Nat) (a m : Int) (w : World) (hn : n ≤ 9223372036854775807) (ha : 0 ≤ a) (hm : 0 ≤ m) (h : a + m ≤ n) :
    Calls Tryd.prog 39 #[.slice A n cap, .int .i64 a, .int .i64 m] w fun e w' => e = .returned (.bool true) ∧ w = w' := by
  go_enter Tryd.func39, Tryd.ntmps39
  go_wp2
  go_ret
  exact ⟨by simp; omega, rfl⟩
theorem holds_no (A : Option Addr) (n cap : Nat) (a m : Int) (w : World) (hn : n ≤ 9223372036854775807) (ha : 0 ≤ a) (hm : 0 ≤ m) (h : n < a + m) :
    Calls Tryd.prog 39 #[.slice A n cap, .int .i64 a, .int .i64 m] w fun e w' => e = .returned (.bool false) ∧ w = w' := by
  by_cases h1 : a ≤ n
  · go_enter Tryd.func39, Tryd.ntmps39
    go_wp2
    go_ret
    exact ⟨by simp; omega, rfl⟩
  · go_enter Tryd.func39, Tryd.ntmps39
    go_wp2
    go_ret
    exact ⟨rfl, rfl⟩

end Go.Proofs.YtnofalgcpgheoaaDoor
