/-
  SameExts and SameDefects at values that read as the same.
-/
import Derived.Test.YtjpaicdbnadoeaaExts
namespace Go.Proofs.Ytjpaicdbnadoeaa
open Go.RowKit
set_option linter.unusedVariables false

set_option maxHeartbeats 800000 in
theorem samedefs (L : List Nat) (v1 v2 : Value) (w : World) (hL : L.length ≤ 1000000) (h1 : DefRead w v1 L) (h2 : DefRead w v2 L) :
    Calls Try.prog 21 #[v1, v2] w fun e w' => e = .returned (.bool true) ∧ Below w.heap.size w w' := by
  obtain ⟨A, c, rfl, hc, hA⟩ := h1
  obtain ⟨B, d, rfl, hd, hB⟩ := h2
  obtain ⟨n, hn⟩ : ∃ n, n = L.length := ⟨_, rfl⟩
  rw [← hn] at hL hc hd ⊢
  have HA : Hid (∀ W k, Below w.heap.size w W → k < n → ∃ b o x, A = some ⟨b, o, none⟩ ∧ L[k]? = some x ∧ W.cell? ⟨b, o + k, none⟩ = some (.int .i64 (x : Nat))) := fun W k hW hk => by
    have hx : L[k]? = some (L[k]'(by omega)) := List.getElem?_eq_getElem (by omega)
    obtain ⟨b, o, ea, hlt, c1⟩ := hA k _ hx
    exact ⟨b, o, _, ea, hx, (hW.cell (p := ⟨b, o + k, none⟩) hlt).trans c1⟩
  have HB : Hid (∀ W k, Below w.heap.size w W → k < n → ∃ b o x, B = some ⟨b, o, none⟩ ∧ L[k]? = some x ∧ W.cell? ⟨b, o + k, none⟩ = some (.int .i64 (x : Nat))) := fun W k hW hk => by
    have hx : L[k]? = some (L[k]'(by omega)) := List.getElem?_eq_getElem (by omega)
    obtain ⟨b, o, ea, hlt, c1⟩ := hB k _ hx
    exact ⟨b, o, _, ea, hx, (hW.cell (p := ⟨b, o + k, none⟩) hlt).trans c1⟩
  have nI : (n : Int) ≤ 1000000 := by omega
  clear hn hA hB hc hd hL
  go_enter Try.func21, Try.ntmps21
  go_wp2
  go_loopw [5] (fun i W => ∃ k : Nat, k ≤ n ∧ i = .int .i64 k ∧ Below w.heap.size w W) (fun i W => n - (intOf i).toNat)
  case atStart => exact ⟨0, Nat.zero_le _, rfl, Below.refl _ _⟩
  case round =>
    obtain ⟨k, hk, rfl, hW⟩ := hrel
    by_cases hlt : k < n
    · obtain ⟨b, o, x, rfl, hx, c1⟩ := HA.out _ k hW hlt
      obtain ⟨b2, o2, x2, rfl, hx2, c2⟩ := HB.out _ k hW hlt
      have e : x2 = x := by rw [hx] at hx2; injection hx2 with h; exact h.symm
      subst e
      have HW := Lib.hid hW
      clear hx hx2 hW
      have e1 : ((x2 : Int) != (x2 : Int)) = false := by simp
      have kI : (k : Int) < (n : Int) := by omega
      have k0 : (0 : Int) ≤ (k : Int) := by omega
      go_wp2
      go_quiet (fail)
      go_wp2
      go_roundw
      case rel => exact ⟨k + 1, by omega, by go_num, below_drewN' HW.out _⟩
      case measure => simp [intOf]; omega
    · go_wp2
      go_ret
      exact ⟨rfl, hW⟩
theorem same_quiet (A B : Option Addr) (n c d : Nat) (bs : List Nat) (w : World) (hn : n ≤ 9223372036854775807) (hA : Row w A n bs) (hB : Row w B n bs) :
    Calls Try.prog 35 #[.slice A n c, .slice B n d] w (Quiet (.bool true) w) := by
  rcases Nat.eq_zero_or_pos n with h0 | h0
  · subst h0
    clear hA hB
    go_enter Try.func35, Try.ntmps35
    go_wp2
    refine wp_loop_rounds 1 ?_
    rw [rounds_succ]
    go_wp2
    go_ret
    exact ⟨rfl, 0, rfl⟩
  · obtain ⟨b, o, rfl, hb, hc⟩ := hA.addr h0
    obtain ⟨b2, o2, rfl, hb2, hc2⟩ := hB.addr h0
    have HC := Lib.hid hc
    have HC2 := Lib.hid hc2
    clear hc hc2 hA hB
    go_enter Try.func35, Try.ntmps35
    go_wp2
    go_loopw [5] (fun i wr => ∃ k q : Nat, k ≤ n ∧ i = .int .i64 k ∧ wr = w.drewN q) (fun i _ => n - (intOf i).toNat)
    case atStart => exact ⟨0, 0, Nat.zero_le _, rfl, rfl⟩
    case round =>
      obtain ⟨k, q, hk, rfl, rfl⟩ := hrel
      by_cases hlt : k < n
      · have h1 := HC.out k hlt
        have h2 := HC2.out k hlt
        go_wp2
        go_quiet (fail)
        go_wp2
        go_roundw
        case rel => exact ⟨k + 1, q + nq, by omega, by go_num, rfl⟩
        case measure => simp [intOf]; omega
      · go_wp2
        go_ret
        exact ⟨rfl, q, rfl⟩
theorem same_val_quiet (l : List Nat) (v1 v2 : Value) (w : World) (hl : l.length ≤ 9223372036854775807) (h1 : ByteVal w v1 l) (h2 : ByteVal w v2 l) :
    Calls Try.prog 35 #[v1, v2] w (Quiet (.bool true) w) := by
  obtain ⟨A, c, rfl, _, hA⟩ := h1
  obtain ⟨B, d, rfl, _, hB⟩ := h2
  exact same_quiet A B l.length c d l w hl hA hB
end Go.Proofs.Ytjpaicdbnadoeaa
