/-
  The walk of the statement OctetBits.
-/
import Derived.Test.YtbnheffeojnjdaaOct4
import Derived.Test.YtbnheffeojnjdaaLive1
import Derived.Test.YtbnheffeojnjdaaLift
namespace Go.Proofs.Ytbnheffeojnjdaa
open Go.RowKit
set_option linter.unusedVariables false

theorem two_of {zs : List Int} (h : zs.length = 2) : ∃ a b, zs = [a, b] := by
  match zs, h with
  | [a, b], _ => exact ⟨a, b, rfl⟩
theorem four_of {zs : List Int} (h : zs.length = 4) : ∃ a b c d, zs = [a, b, c, d] := by
  match zs, h with
  | [a, b, c, d], _ => exact ⟨a, b, c, d, rfl⟩

theorem bits_agree (n : Nat) (f c : Int) (hn : n ≤ 18446744073709551615) :
    ∃ r : Nat, (∀ w, Calls Try.prog 23 #[.int .u64 n, .int .i64 f, .int .i64 c] w (Quiet (.int .u64 r) w)) ∧
      (∀ w, Calls Try.prog 24 #[.int .u64 n, .int .i64 f, .int .i64 c] w fun e w' => e = .returned (.int .u64 r) ∧ w = w') := by
  by_cases h : f < 0 ∨ 63 < f ∨ c < 0 ∨ 64 - f < c
  · exact ⟨0, fun w => bits_no n f c w h, fun w => rbits_no n f c w h⟩
  · obtain ⟨f, rfl⟩ := Int.eq_ofNat_of_zero_le (show 0 ≤ f by omega)
    obtain ⟨c, rfl⟩ := Int.eq_ofNat_of_zero_le (show 0 ≤ c by omega)
    exact ⟨_, fun w => bits_ok n f c w hn (by omega) (by omega), fun w => rbits_ok n f c w hn (by omega) (by omega)⟩
theorem setbits_agree (n x : Nat) (f c : Int) (hn : n ≤ 18446744073709551615) (hx : x ≤ 18446744073709551615) :
    ∃ r : Nat, (∀ w, Calls Try.prog 25 #[.int .u64 n, .int .i64 f, .int .i64 c, .int .u64 x] w fun e w' => e = .returned (.int .u64 r) ∧ w = w') ∧
      (∀ w, Calls Try.prog 26 #[.int .u64 n, .int .i64 f, .int .i64 c, .int .u64 x] w fun e w' => e = .returned (.int .u64 r) ∧ w = w') := by
  by_cases h : f < 0 ∨ 63 < f ∨ c < 0 ∨ 64 - f < c
  · exact ⟨n, fun w => setbits_no n x f c w h, fun w => rsetbits_no n x f c w h⟩
  · obtain ⟨f, rfl⟩ := Int.eq_ofNat_of_zero_le (show 0 ≤ f by omega)
    obtain ⟨c, rfl⟩ := Int.eq_ofNat_of_zero_le (show 0 ≤ c by omega)
    exact ⟨_, fun w => setbits_ok n f c x w hn (by omega) (by omega), fun w => rsetbits_ok n f c x w hn hx (by omega) (by omega)⟩

set_option maxHeartbeats 400000 in
theorem walk_OctetBits (zs0 : List Int) (f c : Int) (w : World) (hn0 : zs0.length = 2) (hz0 : ∀ z ∈ zs0, (Lit.int .u64 z).wf = true)
    (lo1 : -9223372036854775808 ≤ f) (hi1 : f ≤ 9223372036854775807) (lo2 : -9223372036854775808 ≤ c) (hi2 : c ≤ 9223372036854775807) :
    Calls Try.prog 5 #[.agg (zs0.map (Value.int .u64)).toArray, .int .i64 f, .int .i64 c] w fun e w' => e = .returned (.bool true) ∧ Below w.heap.size w w' := by
  obtain ⟨a, b, rfl⟩ := two_of hn0
  have ha := wf_u64 (hz0 a (by simp))
  have hb := wf_u64 (hz0 b (by simp))
  obtain ⟨n, rfl⟩ := Int.eq_ofNat_of_zero_le ha.1
  obtain ⟨x, rfl⟩ := Int.eq_ofNat_of_zero_le hb.1
  obtain ⟨r, g1, g2⟩ := bits_agree n f c (by omega)
  obtain ⟨s, c1, c2⟩ := setbits_agree n x f c (by omega) (by omega)
  have G1 := Lib.hid g1
  have G2 := Lib.hid g2
  have C1 := Lib.hid c1
  have C2 := Lib.hid c2
  clear g1 g2 c1 c2 hz0 ha hb hn0
  show Calls Try.prog 5 #[.agg #[.int .u64 n, .int .u64 x], .int .i64 f, .int .i64 c] w fun e w' => e = .returned (.bool true) ∧ Below w.heap.size w w'
  go_enter Try.func5, Try.ntmps5
  go_wp2_with fail
  go_quiet (fail)
  go_wp2_with fail
  refine (live1 _).mono ?_
  rintro e w1 ⟨rfl, b1⟩
  have B1 : Below w.heap.size w w1 := (below_drewN' ((Below.refl _ _).alloc (Nat.le_refl _) _) nq).trans (b1.mono (by simp))
  have B1 := Lib.hid B1
  clear b1
  go_wp2_with fail
  refine (G1.out _).mono ?_
  rintro e w2 ⟨rfl, q, rfl⟩
  go_wp2_with fail
  refine (G2.out _).mono ?_
  rintro e w2 ⟨rfl, rfl⟩
  go_wp2_with fail
  refine (C1.out _).mono ?_
  rintro e w2 ⟨rfl, rfl⟩
  go_wp2_with fail
  refine (C2.out _).mono ?_
  rintro e w2 ⟨rfl, rfl⟩
  go_wp2
  go_ret
  exact ⟨rfl, below_drewN' B1.out _⟩
end Go.Proofs.Ytbnheffeojnjdaa
