/-
  Contracts of onesum's Add, Swap, Join and of the document's rest, Add, Sum, Check, Good, Swap, Join.
-/
import Derived.Test.YtnofalgcpgheoaaDoorBase
import Derived.Test.YtnofalgcpgheoaaDoorOPlain
import Derived.Laws.BitsAllLaws
namespace Go.Proofs.YtnofalgcpgheoaaDoor
open Go.RowKit
set_option linter.unusedVariables false

theorem oadd_any (a b : Nat) (w : World) (ha : a ≤ 65535) (hb : b ≤ 65535) :
    Calls Tryd.prog 36 #[.int .u16 a, .int .u16 b] w fun e w' => e = .returned (.int .u16 (orest (a + b) : Nat)) ∧ w = w' := by
  have H := Lib.hid (orest_two ha hb)
  by_cases h : 65535 < a + b
  · have h2 : (65535 : Int) < (a : Int) + (b : Int) := by omega
    go_enter Tryd.func36, Tryd.ntmps36
    go_wp2_with fail
    go_ret
    refine ⟨?_, rfl⟩
    rw [H.out, if_pos h]
    go_num
  · have h2 : (a : Int) + (b : Int) ≤ 65535 := by omega
    go_enter Tryd.func36, Tryd.ntmps36
    go_wp2_with fail
    go_ret
    refine ⟨?_, rfl⟩
    rw [H.out, if_neg h]
    go_num
theorem or8_u16 (a b : Nat) (ha : a < 256) (hb : b < 256) : bits .or .u16 ((a : Int) * 256) (b : Int) = ((a * 256 + b : Nat) : Int) := by
  have h := u16_or_nat (a * 256) b (by omega) (by omega)
  rw [nat_join 8 (a * 256) b (by omega) (by omega)] at h
  simpa using h
theorem tmod_two (n : Int) : Int.tmod n 2 = 0 ↔ n % 2 = 0 := by rw [← Int.dvd_iff_tmod_eq_zero, ← Int.dvd_iff_emod_eq_zero]
/-- The second part's sum, as it joins. -/
def opart (n : Int) (b : Nat) : Nat := if n % 2 = 0 then b else oswap b
theorem opart_le (n : Int) {b : Nat} (h : b ≤ 65535) : opart n b ≤ 65535 := by unfold opart; split; exact h; exact oswap_le h
end Go.Proofs.YtnofalgcpgheoaaDoor
