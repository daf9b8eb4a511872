/-
  Arrays of words that come in as arguments.
-/
import Derived.Test.YtmgjaghmnnipbaaLift
namespace Go.Proofs.Ytmgjaghmnnipbaa
open Go.RowKit
set_option linter.unusedVariables false

theorem wf_u64w {n : Int} (h : (Lit.int .u64 n).wf = true) : 0 ≤ n ∧ n ≤ 18446744073709551615 := by
  simp [Lit.wf, IntKind.min, IntKind.max, IntKind.signed, IntKind.bits] at h; omega
theorem nat_u64w {z : Int} (h : (Lit.int .u64 z).wf = true) : ∃ n : Nat, z = (n : Int) ∧ n ≤ 18446744073709551615 := by
  have := wf_u64w h
  obtain ⟨n, rfl⟩ := Int.eq_ofNat_of_zero_le this.1
  exact ⟨n, rfl, by omega⟩
theorem two_u64 {zs : List Int} (hn : zs.length = 2) (hz : ∀ z ∈ zs, (Lit.int .u64 z).wf = true) : ∃ a b : Nat, zs = [(a : Int), (b : Int)] ∧ a ≤ 18446744073709551615 ∧ b ≤ 18446744073709551615 := by
  match zs, hn with
  | [x, y], _ =>
    obtain ⟨a, rfl, ha⟩ := nat_u64w (hz x (by simp))
    obtain ⟨b, rfl, hb⟩ := nat_u64w (hz y (by simp))
    exact ⟨a, b, rfl, ha, hb⟩
theorem three_u64 {zs : List Int} (hn : zs.length = 3) (hz : ∀ z ∈ zs, (Lit.int .u64 z).wf = true) : ∃ a b c : Nat, zs = [(a : Int), (b : Int), (c : Int)] ∧ a ≤ 18446744073709551615 ∧ b ≤ 18446744073709551615 ∧ c ≤ 18446744073709551615 := by
  match zs, hn with
  | [x, y, z], _ =>
    obtain ⟨a, rfl, ha⟩ := nat_u64w (hz x (by simp))
    obtain ⟨b, rfl, hb⟩ := nat_u64w (hz y (by simp))
    obtain ⟨c, rfl, hc⟩ := nat_u64w (hz z (by simp))
    exact ⟨a, b, c, rfl, ha, hb, hc⟩
end Go.Proofs.Ytmgjaghmnnipbaa
