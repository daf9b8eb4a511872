/-
  span's port, Check, All, Has, Meet, and the document's Check, Has, Meet.
-/
import Derived.Test.YtcbhhfnnjfpmbaaSpRows
import Derived.Test.YtcbhhfnnjfpmbaaLift
namespace Go.Proofs.Ytcbhhfnnjfpmbaa
open Go.RowKit
set_option linter.unusedVariables false

/-- What is wrong with a span. -/
def chkS (s : Sp) : Int := if 0 ≤ s.1 ∧ s.1 ≤ 65535 ∧ 0 ≤ s.2 ∧ s.2 ≤ 65535 then (if s.1 ≤ s.2 then 0 else 6) else 1
theorem chkS_ok {s : Sp} : chkS s = 0 ↔ OkS s := by
  unfold chkS OkS
  split
  · split
    · constructor
      · intro _; omega
      · intro _; rfl
    · constructor
      · intro h; omega
      · intro h; omega
  · constructor
    · intro h; omega
    · intro h; omega
theorem port_yes (n : Int) (w : World) (h0 : 0 ≤ n) (h1 : n ≤ 65535) : Calls Try.prog 9 #[.int .i64 n] w fun e w' => e = .returned (.bool true) ∧ w = w' := by
  go_enter Try.func9, Try.ntmps9
  go_wp2
  go_ret
  exact ⟨rfl, rfl⟩
theorem port_no (n : Int) (w : World) (h : ¬ (0 ≤ n ∧ n ≤ 65535)) : Calls Try.prog 9 #[.int .i64 n] w fun e w' => e = .returned (.bool false) ∧ w = w' := by
  by_cases h0 : 0 ≤ n
  · have h1 : 65535 < n := by omega
    clear h
    go_enter Try.func9, Try.ntmps9
    go_wp2
    go_ret
    exact ⟨by simp; omega, rfl⟩
  · have h1 : n < 0 := by omega
    clear h h0
    go_enter Try.func9, Try.ntmps9
    go_wp2
    go_ret
    exact ⟨rfl, rfl⟩
theorem scheck_any (a b : Int) (w : World) : Calls Try.prog 12 #[.agg #[.int .i64 a, .int .i64 b]] w fun e w' => e = .returned (.int .i64 (chkS (a, b))) ∧ Below w.heap.size w w' := by
  have B : Hid (Below w.heap.size w (w.alloc (.cells #[.int .i64 a, .int .i64 b] 27))) := (Below.refl _ _).alloc (Nat.le_refl _) _
  by_cases ha : 0 ≤ a ∧ a ≤ 65535
  · by_cases hb : 0 ≤ b ∧ b ≤ 65535
    · have CA := Lib.hid (fun w => port_yes a w ha.1 ha.2)
      have CB := Lib.hid (fun w => port_yes b w hb.1 hb.2)
      by_cases hab : a ≤ b
      · have e : chkS (a, b) = 0 := by unfold chkS; rw [if_pos ⟨ha.1, ha.2, hb.1, hb.2⟩, if_pos hab]
        rw [e]
        clear ha hb e
        go_enter Try.func12, Try.ntmps12
        go_wp2_with (first | (go_at_call 9; with_reducible refine (CA.out _).mono ?_; rintro e w' ⟨rfl, rfl⟩) | (go_at_call 9; with_reducible refine (CB.out _).mono ?_; rintro e w' ⟨rfl, rfl⟩) | fail)
        go_ret
        exact ⟨rfl, B.out⟩
      · have e : chkS (a, b) = 6 := by unfold chkS; rw [if_pos ⟨ha.1, ha.2, hb.1, hb.2⟩, if_neg hab]
        rw [e]
        have hba : b < a := by omega
        clear ha hb e hab
        go_enter Try.func12, Try.ntmps12
        go_wp2_with (first | (go_at_call 9; with_reducible refine (CA.out _).mono ?_; rintro e w' ⟨rfl, rfl⟩) | (go_at_call 9; with_reducible refine (CB.out _).mono ?_; rintro e w' ⟨rfl, rfl⟩) | fail)
        go_ret
        exact ⟨rfl, B.out⟩
    · have CA := Lib.hid (fun w => port_yes a w ha.1 ha.2)
      have CB := Lib.hid (fun w => port_no b w hb)
      have e : chkS (a, b) = 1 := by unfold chkS; rw [if_neg (fun h => hb ⟨h.2.2.1, h.2.2.2⟩)]
      rw [e]
      clear ha hb e
      go_enter Try.func12, Try.ntmps12
      go_wp2_with (first | (go_at_call 9; with_reducible refine (CA.out _).mono ?_; rintro e w' ⟨rfl, rfl⟩) | (go_at_call 9; with_reducible refine (CB.out _).mono ?_; rintro e w' ⟨rfl, rfl⟩) | fail)
      go_ret
      exact ⟨rfl, B.out⟩
  · have CA := Lib.hid (fun w => port_no a w ha)
    have e : chkS (a, b) = 1 := by unfold chkS; rw [if_neg (fun h => ha ⟨h.1, h.2.1⟩)]
    rw [e]
    clear ha e
    go_enter Try.func12, Try.ntmps12
    go_wp2_with (first | (go_at_call 9; with_reducible refine (CA.out _).mono ?_; rintro e w' ⟨rfl, rfl⟩) | fail)
    go_ret
    exact ⟨rfl, B.out⟩
/-- Does a span have a number? -/
def hasS (s : Sp) (n : Int) : Bool := decide (chkS s = 0) && decide (s.1 ≤ n) && decide (n ≤ s.2)
theorem new_cell2 (w : World) (a b : Value) (t : TypeId) : (w.alloc (.cells #[a, b] t)).cell? ⟨w.heap.size, 0, none⟩ = some a ∧ (w.alloc (.cells #[a, b] t)).cell? ⟨w.heap.size, 1, none⟩ = some b := by
  rw [cell_of_row _ w.heap.size 0 _ _ _ (heap_alloc_new w _), cell_of_row _ w.heap.size 1 _ _ _ (heap_alloc_new w _)]
  exact ⟨rfl, rfl⟩
theorem cell_later {W W' : World} {p : Addr} {v : Value} (h : W.cell? p = some v) (hb : Below W.heap.size W W') : W'.cell? p = some v := (hb.cell (cell_lt h)).trans h
end Go.Proofs.Ytcbhhfnnjfpmbaa
