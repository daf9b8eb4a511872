/-
  SameExts and SameDefects at values that read as the same.
-/
import Derived.Test.YtcjaidpmfjnhpaaExts
namespace Go.Proofs.Ytcjaidpmfjnhpaa
open Go.RowKit
set_option linter.unusedVariables false

set_option maxHeartbeats 800000 in
theorem samedefs (L : List Nat) (v1 v2 : Value) (w : World) (hL : L.length ≤ 1000000) (h1 : DefRead w v1 L) (h2 : DefRead w v2 L) :
    Calls Try.prog 12 #[v1, v2] w fun e w' => e = .returned (.bool true) ∧ Below w.heap.size w w' := by
  obtain ⟨A, c, rfl, hc, hA⟩ := h1
  obtain ⟨B, d, rfl, hd, hB⟩ := h2
  obtain ⟨n, hn⟩ : ∃ n, n = L.length := ⟨_, rfl⟩
  rw [← hn] at hL hc hd ⊢
  have HA : Hid (∀ W k, Below w.heap.size w W → k < n → ∃ b o x, A = some ⟨b, o, none⟩ ∧ L[k]? = some x ∧ W.cell? ⟨b, o + k, none⟩ = some (.int .i64 (x : Nat))) := fun W k hW hk => by
    have hx : L[k]? = some (L[k]'(by omega)) := List.getElem?_eq_getElem (by omega)
    obtain ⟨b, o, ea, hlt, c1⟩ := hA k _ hx
    exact ⟨b, o, _, ea, hx, (hW.cell (p := ⟨b, o + k, none⟩) hlt).trans c1⟩
  have HB : Hid (∀ W k, Below w.heap.size w W → k < n → ∃ b o x, B = some ⟨b, o, none⟩ ∧ L[k]? = some x ∧ W.cell? ⟨b, o + k, none⟩ = some (.int .i64 (x : Nat))) := fun W k hW hk => by
    have hx : L[k]? = some (L[k]'(by omega)) := List.getElem?_eq_getElem (by omega)
    obtain ⟨b, o, ea, hlt, c1⟩ := hB k _ hx
    exact ⟨b, o, _, ea, hx, (hW.cell (p := ⟨b, o + k, none⟩) hlt).trans c1⟩
  have nI : (n : Int) ≤ 1000000 := by omega
  clear hn hA hB hc hd hL
  go_enter Try.func12, Try.ntmps12
  go_wp2
  go_loopw [5] (fun i W => ∃ k : Nat, k ≤ n ∧ i = .int .i64 k ∧ Below w.heap.size w W) (fun i W => n - (intOf i).toNat)
  case atStart => exact ⟨0, Nat.zero_le _, rfl, Below.refl _ _⟩
  case round =>
    obtain ⟨k, hk, rfl, hW⟩ := hrel
    by_cases hlt : k < n
    · obtain ⟨b, o, x, rfl, hx, c1⟩ := HA.out _ k hW hlt
      obtain ⟨b2, o2, x2, rfl, hx2, c2⟩ := HB.out _ k hW hlt
      have e : x2 = x := by rw [hx] at hx2; injection hx2 with h; exact h.symm
      subst e
      have HW := Lib.hid hW
      clear hx hx2 hW
      have e1 : ((x2 : Int) != (x2 : Int)) = false := by simp
      have kI : (k : Int) < (n : Int) := by omega
      have k0 : (0 : Int) ≤ (k : Int) := by omega
      go_wp2
      go_quiet (fail)
      go_wp2
      go_roundw
      case rel => exact ⟨k + 1, by omega, by go_num, below_drewN' HW.out _⟩
      case measure => simp [intOf]; omega
    · go_wp2
      go_ret
      exact ⟨rfl, hW⟩
end Go.Proofs.Ytcjaidpmfjnhpaa
