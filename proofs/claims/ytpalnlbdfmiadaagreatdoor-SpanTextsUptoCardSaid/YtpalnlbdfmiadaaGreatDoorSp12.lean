/-
  The document's Same, SameInts over equal rows.
-/
import Derived.Test.YtpalnlbdfmiadaaGreatDoorSp11
namespace Go.Proofs.YtpalnlbdfmiadaaGreatDoor
open Go.RowKit Go.Shelf Go.Lib Go.Sort
set_option linter.unusedVariables false

theorem k_wrap {k n : Nat} (h : k < n) (hn : n ≤ 8796093022207) : IntKind.i64.wrap (k : Int) = (k : Int) := by rw [IntKind.wrap_i64]; omega
theorem rssame_yes (A B : Option Addr) (n c d : Nat) (L : List Sp) (w : World) (hn : n ≤ 8796093022206) (hA : SpRow w A n L) (hB : SpRow w B n L) :
    Calls Tryz.prog 21 #[.slice A n c, .slice B n d] w fun e w' => e = .returned (.bool true) ∧ Below w.heap.size w w' := by
  go_enter Tryz.func21, Tryz.ntmps21
  have hni : (n : Int) ≤ 8796093022206 := by omega
  have HN := Lib.hid hn
  clear hn
  go_wp2_with fail
  go_loopw [5] (fun i wr => ∃ k : Nat, k ≤ n ∧ i = .int .i64 (k : Int) ∧ Below w.heap.size w wr) (fun i _ => n - (intOf i).toNat)
  case atStart => exact ⟨0, Nat.zero_le _, rfl, Below.refl _ _⟩
  case round =>
    obtain ⟨k, hk, rfl, hb⟩ := hrel
    have HB := Lib.hid hb
    by_cases hlt : k < n
    · obtain ⟨b, o, rfl, hl, hc⟩ := hA.addr (by omega)
      obtain ⟨b', o', rfl, hl', hc'⟩ := hB.addr (by omega)
      have h1 := (hb.cell (p := ⟨b, o + k * 2, none⟩) hl).trans (hc k hlt).1
      have h2 := (hb.cell (p := ⟨b, o + k * 2 + 1, none⟩) hl).trans (hc k hlt).2
      have h3 := (hb.cell (p := ⟨b', o' + k * 2, none⟩) hl').trans (hc' k hlt).1
      have h4 := (hb.cell (p := ⟨b', o' + k * 2 + 1, none⟩) hl').trans (hc' k hlt).2
      obtain ⟨x, hx⟩ : ∃ x, x = L.getD k (0, 0) := ⟨_, rfl⟩
      rw [← hx] at h1 h2 h3 h4
      obtain ⟨x1, x2⟩ := x
      have h1 : wr.cell? ⟨b, o + k * 2, none⟩ = some (.int .i64 x1) := h1
      have h2 : wr.cell? ⟨b, o + k * 2 + 1, none⟩ = some (.int .i64 x2) := h2
      have h3 : wr.cell? ⟨b', o' + k * 2, none⟩ = some (.int .i64 x1) := h3
      have h4 : wr.cell? ⟨b', o' + k * 2 + 1, none⟩ = some (.int .i64 x2) := h4
      have u := k_wrap hlt (by have := HN.out; omega)
      clear hc hc' hx hA hB hb hl hl'
      go_wp2_with fail
      go_quiet (fail)
      go_wp2_with fail
      go_roundw
      case rel => exact ⟨k + 1, by omega, by go_num, below_drewN' HB.out _⟩
      case measure => simp [intOf]; omega
    · obtain rfl : k = n := by omega
      clear hA hB hb
      go_wp2_with fail
      go_ret
      exact ⟨rfl, HB.out⟩
theorem rssameints_yes (A B : Option Addr) (n c d : Nat) (xs : List Int) (w : World) (hn : n ≤ 8796093022206) (hA : RowZ w A n xs) (hB : RowZ w B n xs) :
    Calls Tryz.prog 22 #[.slice A n c, .slice B n d] w fun e w' => e = .returned (.bool true) ∧ Below w.heap.size w w' := by
  go_enter Tryz.func22, Tryz.ntmps22
  have hni : (n : Int) ≤ 8796093022206 := by omega
  have HN := Lib.hid hn
  clear hn
  go_wp2_with fail
  go_loopw [5] (fun i wr => ∃ k : Nat, k ≤ n ∧ i = .int .i64 (k : Int) ∧ Below w.heap.size w wr) (fun i _ => n - (intOf i).toNat)
  case atStart => exact ⟨0, Nat.zero_le _, rfl, Below.refl _ _⟩
  case round =>
    obtain ⟨k, hk, rfl, hb⟩ := hrel
    have HB := Lib.hid hb
    by_cases hlt : k < n
    · obtain ⟨b, o, rfl, hl, hc⟩ := hA.addr (by omega)
      obtain ⟨b', o', rfl, hl', hc'⟩ := hB.addr (by omega)
      have h1 := (hb.cell (p := ⟨b, o + k, none⟩) hl).trans (hc k hlt)
      have h2 := (hb.cell (p := ⟨b', o' + k, none⟩) hl').trans (hc' k hlt)
      obtain ⟨x, hx⟩ : ∃ x, x = xs.getD k 0 := ⟨_, rfl⟩
      rw [← hx] at h1 h2
      clear hc hc' hx hA hB hb hl hl'
      have u := k_wrap hlt (by have := HN.out; omega)
      go_wp2_with fail
      go_quiet (fail)
      go_wp2_with fail
      go_roundw
      case rel => exact ⟨k + 1, by omega, by go_num, below_drewN' HB.out _⟩
      case measure => simp [intOf]; omega
    · obtain rfl : k = n := by omega
      clear hA hB hb
      go_wp2_with fail
      go_ret
      exact ⟨rfl, HB.out⟩
end Go.Proofs.YtpalnlbdfmiadaaGreatDoor
