/-
  SameExts and SameDefects at values that read as the same.
-/
import Derived.Test.YtmchclpkjjmocaaGreatExts
namespace Go.Proofs.YtmchclpkjjmocaaGreat
open Go.RowKit
set_option linter.unusedVariables false

theorem same_quiet (A B : Option Addr) (n c d : Nat) (bs : List Nat) (w : World) (hn : n ≤ 9223372036854775807) (hA : Row w A n bs) (hB : Row w B n bs) :
    Calls Tryz.prog 8 #[.slice A n c, .slice B n d] w (Quiet (.bool true) w) := by
  rcases Nat.eq_zero_or_pos n with h0 | h0
  · subst h0
    clear hA hB
    go_enter Tryz.func8, Tryz.ntmps8
    go_wp2
    refine wp_loop_rounds 1 ?_
    rw [rounds_succ]
    go_wp2
    go_ret
    exact ⟨rfl, 0, rfl⟩
  · obtain ⟨b, o, rfl, hb, hc⟩ := hA.addr h0
    obtain ⟨b2, o2, rfl, hb2, hc2⟩ := hB.addr h0
    have HC := Lib.hid hc
    have HC2 := Lib.hid hc2
    clear hc hc2 hA hB
    go_enter Tryz.func8, Tryz.ntmps8
    go_wp2
    go_loopw [5] (fun i wr => ∃ k q : Nat, k ≤ n ∧ i = .int .i64 k ∧ wr = w.drewN q) (fun i _ => n - (intOf i).toNat)
    case atStart => exact ⟨0, 0, Nat.zero_le _, rfl, rfl⟩
    case round =>
      obtain ⟨k, q, hk, rfl, rfl⟩ := hrel
      by_cases hlt : k < n
      · have h1 := HC.out k hlt
        have h2 := HC2.out k hlt
        go_wp2
        go_quiet (fail)
        go_wp2
        go_roundw
        case rel => exact ⟨k + 1, q + nq, by omega, by go_num, rfl⟩
        case measure => simp [intOf]; omega
      · go_wp2
        go_ret
        exact ⟨rfl, q, rfl⟩
theorem same_val_quiet (l : List Nat) (v1 v2 : Value) (w : World) (hl : l.length ≤ 9223372036854775807) (h1 : ByteVal w v1 l) (h2 : ByteVal w v2 l) :
    Calls Tryz.prog 8 #[v1, v2] w (Quiet (.bool true) w) := by
  obtain ⟨A, c, rfl, _, hA⟩ := h1
  obtain ⟨B, d, rfl, _, hB⟩ := h2
  exact same_quiet A B l.length c d l w hl hA hB
end Go.Proofs.YtmchclpkjjmocaaGreat
