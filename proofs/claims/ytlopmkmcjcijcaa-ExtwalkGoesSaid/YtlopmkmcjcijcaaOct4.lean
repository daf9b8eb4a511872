/-
  Contracts of octet's ones, within, Bits, SetBits and of the document's are, bit, fits, Bits, SetBits.
-/
import Derived.Test.YtlopmkmcjcijcaaBase
import Derived.Test.YtlopmkmcjcijcaaPlain2
namespace Go.Proofs.Ytlopmkmcjcijcaa
open Go.RowKit
set_option linter.unusedVariables false

theorem ones_any (c : Int) (w : World) (h0 : 0 ≤ c) (h1 : c ≤ 64) :
    Calls Try.prog 87 #[.int .i64 c] w fun e w' => e = .returned (.int .u64 ((2 ^ c.toNat - 1 : Nat) : Int)) ∧ w = w' := by
  have h := Lib.hid (ones_eq c.toNat (by omega))
  go_enter Try.func87, Try.ntmps87
  go_wp2
  go_ret
  refine ⟨?_, rfl⟩
  rw [← h.out]
  rfl
theorem within_yes (f c : Int) (w : World) (h0 : 0 ≤ f) (h1 : f ≤ 63) (h2 : 0 ≤ c) (h3 : c ≤ 64 - f) :
    Calls Try.prog 86 #[.int .i64 f, .int .i64 c] w fun e w' => e = .returned (.bool true) ∧ w = w' := by
  go_enter Try.func86, Try.ntmps86
  go_wp2
  go_ret
  exact ⟨rfl, rfl⟩
theorem within_no (f c : Int) (w : World) (h : f < 0 ∨ 63 < f ∨ c < 0 ∨ 64 - f < c) :
    Calls Try.prog 86 #[.int .i64 f, .int .i64 c] w fun e w' => e = .returned (.bool false) ∧ w = w' := by
  by_cases h1 : 0 ≤ f
  · by_cases h2 : f ≤ 63
    · by_cases h3 : 0 ≤ c
      · have h4 : 64 - f < c := by omega
        clear h
        go_enter Try.func86, Try.ntmps86
        go_wp2
        go_ret
        exact ⟨by simp; omega, rfl⟩
      · clear h
        go_enter Try.func86, Try.ntmps86
        go_wp2
        go_ret
        exact ⟨rfl, rfl⟩
    · clear h
      go_enter Try.func86, Try.ntmps86
      go_wp2
      go_ret
      exact ⟨rfl, rfl⟩
  · clear h
    go_enter Try.func86, Try.ntmps86
    go_wp2
    go_ret
    exact ⟨rfl, rfl⟩
theorem bits_ok (n f c : Nat) (w : World) (hn : n ≤ 18446744073709551615) (h1 : f ≤ 63) (h3 : f + c ≤ 64) :
    Calls Try.prog 64 #[.int .u64 n, .int .i64 f, .int .i64 c] w (Quiet (.int .u64 ((n / 2 ^ f % 2 ^ c : Nat) : Int)) w) := by
  have h := Lib.hid (and_ones (n / 2 ^ f) c (Nat.le_trans (Nat.div_le_self _ _) hn) (by omega))
  go_enter Try.func64, Try.ntmps64
  go_wp2_with (first
    | (go_at_call 86; refine (within_yes _ _ _ (by omega) (by omega) (by omega) (by omega)).mono ?_; rintro e w' ⟨rfl, rfl⟩))
  go_quiet ((go_at_call 87; exact quiet_eq (ones_any _ _ (by omega) (by omega))))
  go_wp2
  go_ret
  refine ⟨?_, nq, rfl⟩
  rw [← h.out]
  simp
theorem bits_no (n : Nat) (f c : Int) (w : World) (h : f < 0 ∨ 63 < f ∨ c < 0 ∨ 64 - f < c) :
    Calls Try.prog 64 #[.int .u64 n, .int .i64 f, .int .i64 c] w (Quiet (.int .u64 0) w) := by
  have h := Lib.hid h
  go_enter Try.func64, Try.ntmps64
  go_wp2_with (first
    | (go_at_call 86; refine (within_no _ _ _ h.out).mono ?_; rintro e w' ⟨rfl, rfl⟩))
  go_ret
  exact ⟨rfl, 0, rfl⟩
theorem setbits_ok (n f c x : Nat) (w : World) (hn : n ≤ 18446744073709551615) (h1 : f ≤ 63) (h3 : f + c ≤ 64) :
    Calls Try.prog 66 #[.int .u64 n, .int .i64 f, .int .i64 c, .int .u64 x] w fun e w' => e = .returned (.int .u64 (setb n f c x : Nat)) ∧ w = w' := by
  have h := Lib.hid (setb_code n f c x hn h3)
  go_enter Try.func66, Try.ntmps66
  go_wp2_with (first
    | (go_at_call 86; refine (within_yes _ _ _ (by omega) (by omega) (by omega) (by omega)).mono ?_; rintro e w' ⟨rfl, rfl⟩)
    | (go_at_call 87; refine (ones_any _ _ (by omega) (by omega)).mono ?_; rintro e w' ⟨rfl, rfl⟩))
  go_ret
  refine ⟨?_, rfl⟩
  rw [← h.out]
  rfl
theorem setbits_no (n x : Nat) (f c : Int) (w : World) (h : f < 0 ∨ 63 < f ∨ c < 0 ∨ 64 - f < c) :
    Calls Try.prog 66 #[.int .u64 n, .int .i64 f, .int .i64 c, .int .u64 x] w fun e w' => e = .returned (.int .u64 n) ∧ w = w' := by
  have h := Lib.hid h
  go_enter Try.func66, Try.ntmps66
  go_wp2_with (first
    | (go_at_call 86; refine (within_no _ _ _ h.out).mono ?_; rintro e w' ⟨rfl, rfl⟩))
  go_ret
  exact ⟨rfl, rfl⟩

end Go.Proofs.Ytlopmkmcjcijcaa
