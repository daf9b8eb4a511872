/-
  span's port, Check, All, Has, Meet, and the document's Check, Has, Meet.
-/
import Derived.Test.YtpalnlbdfmiadaaGreatDoorSpRows
import Derived.Test.YtpalnlbdfmiadaaGreatDoorLift
namespace Go.Proofs.YtpalnlbdfmiadaaGreatDoor
open Go.RowKit
set_option linter.unusedVariables false

/-- What is wrong with a span. -/
def chkS (s : Sp) : Int := if 0 ≤ s.1 ∧ s.1 ≤ 65535 ∧ 0 ≤ s.2 ∧ s.2 ≤ 65535 then (if s.1 ≤ s.2 then 0 else 6) else 1
theorem chkS_ok {s : Sp} : chkS s = 0 ↔ OkS s := by
  unfold chkS OkS
  split
  · split
    · constructor
      · intro _; omega
      · intro _; rfl
    · constructor
      · intro h; omega
      · intro h; omega
  · constructor
    · intro h; omega
    · intro h; omega
theorem port_yes (n : Int) (w : World) (h0 : 0 ≤ n) (h1 : n ≤ 65535) : Calls Tryz.prog 24 #[.int .i64 n] w fun e w' => e = .returned (.bool true) ∧ w = w' := by
  go_enter Tryz.func24, Tryz.ntmps24
  go_wp2
  go_ret
  exact ⟨rfl, rfl⟩
theorem port_no (n : Int) (w : World) (h : ¬ (0 ≤ n ∧ n ≤ 65535)) : Calls Tryz.prog 24 #[.int .i64 n] w fun e w' => e = .returned (.bool false) ∧ w = w' := by
  by_cases h0 : 0 ≤ n
  · have h1 : 65535 < n := by omega
    clear h
    go_enter Tryz.func24, Tryz.ntmps24
    go_wp2
    go_ret
    exact ⟨by simp; omega, rfl⟩
  · have h1 : n < 0 := by omega
    clear h h0
    go_enter Tryz.func24, Tryz.ntmps24
    go_wp2
    go_ret
    exact ⟨rfl, rfl⟩
theorem scheck_any (a b : Int) (w : World) : Calls Tryz.prog 9 #[.agg #[.int .i64 a, .int .i64 b]] w fun e w' => e = .returned (.int .i64 (chkS (a, b))) ∧ Below w.heap.size w w' := by
  have B : Hid (Below w.heap.size w (w.alloc (.cells #[.int .i64 a, .int .i64 b] 23))) := (Below.refl _ _).alloc (Nat.le_refl _) _
  by_cases ha : 0 ≤ a ∧ a ≤ 65535
  · by_cases hb : 0 ≤ b ∧ b ≤ 65535
    · have CA := Lib.hid (fun w => port_yes a w ha.1 ha.2)
      have CB := Lib.hid (fun w => port_yes b w hb.1 hb.2)
      by_cases hab : a ≤ b
      · have e : chkS (a, b) = 0 := by unfold chkS; rw [if_pos ⟨ha.1, ha.2, hb.1, hb.2⟩, if_pos hab]
        rw [e]
        clear ha hb e
        go_enter Tryz.func9, Tryz.ntmps9
        go_wp2_with (first | (go_at_call 24; with_reducible refine (CA.out _).mono ?_; rintro e w' ⟨rfl, rfl⟩) | (go_at_call 24; with_reducible refine (CB.out _).mono ?_; rintro e w' ⟨rfl, rfl⟩) | fail)
        go_ret
        exact ⟨rfl, B.out⟩
      · have e : chkS (a, b) = 6 := by unfold chkS; rw [if_pos ⟨ha.1, ha.2, hb.1, hb.2⟩, if_neg hab]
        rw [e]
        have hba : b < a := by omega
        clear ha hb e hab
        go_enter Tryz.func9, Tryz.ntmps9
        go_wp2_with (first | (go_at_call 24; with_reducible refine (CA.out _).mono ?_; rintro e w' ⟨rfl, rfl⟩) | (go_at_call 24; with_reducible refine (CB.out _).mono ?_; rintro e w' ⟨rfl, rfl⟩) | fail)
        go_ret
        exact ⟨rfl, B.out⟩
    · have CA := Lib.hid (fun w => port_yes a w ha.1 ha.2)
      have CB := Lib.hid (fun w => port_no b w hb)
      have e : chkS (a, b) = 1 := by unfold chkS; rw [if_neg (fun h => hb ⟨h.2.2.1, h.2.2.2⟩)]
      rw [e]
      clear ha hb e
      go_enter Tryz.func9, Tryz.ntmps9
      go_wp2_with (first | (go_at_call 24; with_reducible refine (CA.out _).mono ?_; rintro e w' ⟨rfl, rfl⟩) | (go_at_call 24; with_reducible refine (CB.out _).mono ?_; rintro e w' ⟨rfl, rfl⟩) | fail)
      go_ret
      exact ⟨rfl, B.out⟩
  · have CA := Lib.hid (fun w => port_no a w ha)
    have e : chkS (a, b) = 1 := by unfold chkS; rw [if_neg (fun h => ha ⟨h.1, h.2.1⟩)]
    rw [e]
    clear ha e
    go_enter Tryz.func9, Tryz.ntmps9
    go_wp2_with (first | (go_at_call 24; with_reducible refine (CA.out _).mono ?_; rintro e w' ⟨rfl, rfl⟩) | fail)
    go_ret
    exact ⟨rfl, B.out⟩
theorem sall_any (w : World) : Calls Tryz.prog 10 #[] w fun e w' => e = .returned (.agg #[.int .i64 0, .int .i64 65535]) ∧ Below w.heap.size w w' := by
  have hr0 : (w.alloc (.cells #[.int .i64 0, .int .i64 65535] 23)).cell? ⟨w.heap.size, 0, none⟩ = some (.int .i64 0) := by rw [cell_of_row _ w.heap.size 0 _ _ _ (heap_alloc_new w _)]; rfl
  have hr1 : (w.alloc (.cells #[.int .i64 0, .int .i64 65535] 23)).cell? ⟨w.heap.size, 1, none⟩ = some (.int .i64 65535) := by rw [cell_of_row _ w.heap.size 1 _ _ _ (heap_alloc_new w _)]; rfl
  have B : Hid (Below w.heap.size w (w.alloc (.cells #[.int .i64 0, .int .i64 65535] 23))) := (Below.refl _ _).alloc (Nat.le_refl _) _
  go_enter Tryz.func10, Tryz.ntmps10
  go_wp2_with fail
  exact bodyPost_ret (v := .agg #[.int .i64 0, .int .i64 65535]) (by simp [results, Tryz.results10, go_sem, hr0, hr1]) rfl ⟨rfl, B.out⟩
/-- Does a span have a number? -/
def hasS (s : Sp) (n : Int) : Bool := decide (chkS s = 0) && decide (s.1 ≤ n) && decide (n ≤ s.2)
theorem new_cell2 (w : World) (a b : Value) (t : TypeId) : (w.alloc (.cells #[a, b] t)).cell? ⟨w.heap.size, 0, none⟩ = some a ∧ (w.alloc (.cells #[a, b] t)).cell? ⟨w.heap.size, 1, none⟩ = some b := by
  rw [cell_of_row _ w.heap.size 0 _ _ _ (heap_alloc_new w _), cell_of_row _ w.heap.size 1 _ _ _ (heap_alloc_new w _)]
  exact ⟨rfl, rfl⟩
theorem cell_later {W W' : World} {p : Addr} {v : Value} (h : W.cell? p = some v) (hb : Below W.heap.size W W') : W'.cell? p = some v := (hb.cell (cell_lt h)).trans h
theorem shas_any (a b n : Int) (w : World) : Calls Tryz.prog 23 #[.agg #[.int .i64 a, .int .i64 b], .int .i64 n] w fun e w' => e = .returned (.bool (hasS (a, b) n)) ∧ Below w.heap.size w w' := by
  have C := Lib.hid (fun w => scheck_any a b w)
  have HX := Lib.hid (new_cell2 w (.int .i64 a) (.int .i64 b) 23)
  have B : Hid (Below w.heap.size w (w.alloc (.cells #[.int .i64 a, .int .i64 b] 23))) := (Below.refl _ _).alloc (Nat.le_refl _) _
  have HE : Hid (hasS (a, b) n = (decide (chkS (a, b) = 0) && decide (a ≤ n) && decide (n ≤ b))) := rfl
  obtain ⟨c, hc⟩ : ∃ c, c = chkS (a, b) := ⟨_, rfl⟩
  rw [← hc] at C HE
  rw [HE.out]
  clear hc HE
  by_cases h0 : c = 0
  · subst h0
    rw [decide_eq_true rfl, Bool.true_and]
    by_cases h1 : a ≤ n
    · by_cases h2 : n ≤ b
      · rw [decide_eq_true h1, decide_eq_true h2]
        go_enter Tryz.func23, Tryz.ntmps23
        go_wp2_with fail
        refine (C.out _).mono ?_
        rintro e w1 ⟨rfl, hb⟩
        have B := Lib.hid (below_both B.out hb)
        have c0 := cell_later HX.out.1 hb
        have c1 := cell_later HX.out.2 hb
        clear hb
        go_wp2_with fail
        go_ret
        exact ⟨rfl, B.out⟩
      · rw [decide_eq_true h1, decide_eq_false h2]
        have h3 : b < n := by omega
        clear h2
        go_enter Tryz.func23, Tryz.ntmps23
        go_wp2_with fail
        refine (C.out _).mono ?_
        rintro e w1 ⟨rfl, hb⟩
        have B := Lib.hid (below_both B.out hb)
        have c0 := cell_later HX.out.1 hb
        have c1 := cell_later HX.out.2 hb
        clear hb
        go_wp2_with fail
        go_ret
        exact ⟨by simp; omega, B.out⟩
    · rw [decide_eq_false h1, Bool.false_and]
      have h3 : n < a := by omega
      clear h1
      go_enter Tryz.func23, Tryz.ntmps23
      go_wp2_with fail
      refine (C.out _).mono ?_
      rintro e w1 ⟨rfl, hb⟩
      have B := Lib.hid (below_both B.out hb)
      have c0 := cell_later HX.out.1 hb
      clear hb
      go_wp2_with fail
      go_ret
      exact ⟨rfl, B.out⟩
  · rw [decide_eq_false h0, Bool.false_and, Bool.false_and]
    have h1 : (c == 0) = false := by rw [beq_eq_false_iff_ne]; exact h0
    clear h0
    go_enter Tryz.func23, Tryz.ntmps23
    go_wp2_with fail
    refine (C.out _).mono ?_
    rintro e w1 ⟨rfl, hb⟩
    have B := Lib.hid (below_both B.out hb)
    clear hb
    go_wp2_with fail
    go_ret
    exact ⟨rfl, B.out⟩
end Go.Proofs.YtpalnlbdfmiadaaGreatDoor
