/-
  The document's Check and Has of span; Meet and the document's; the document's Same and SameInts over equal rows.
-/
import Derived.Test.YtpalnlbdfmiadaaGreatDoorSp1
import Derived.Test.YtpalnlbdfmiadaaGreatDoorRowsZ
import Derived.BigQuiet
namespace Go.Proofs.YtpalnlbdfmiadaaGreatDoor
open Go.RowKit
set_option linter.unusedVariables false

theorem rscheck_any (a b : Int) (w : World) : Calls Tryz.prog 15 #[.agg #[.int .i64 a, .int .i64 b]] w fun e w' => e = .returned (.int .i64 (chkS (a, b))) ∧ Below w.heap.size w w' := by
  have B : Hid (Below w.heap.size w (w.alloc (.cells #[.int .i64 a, .int .i64 b] 23))) := (Below.refl _ _).alloc (Nat.le_refl _) _
  by_cases hc0 : a < 0
  · have e : chkS (a, b) = 1 := by unfold chkS; simp only; rw [if_neg (by omega)]
    rw [e]
    clear e
    go_enter Tryz.func15, Tryz.ntmps15
    go_wp2
    go_ret
    exact ⟨rfl, B.out⟩
  · by_cases hc1 : 65535 < a
    · have e : chkS (a, b) = 1 := by unfold chkS; simp only; rw [if_neg (by omega)]
      rw [e]
      clear e
      have h0 : 0 ≤ a := by omega
      go_enter Tryz.func15, Tryz.ntmps15
      go_wp2
      go_ret
      exact ⟨rfl, B.out⟩
    · by_cases hc2 : b < 0
      · have e : chkS (a, b) = 1 := by unfold chkS; simp only; rw [if_neg (by omega)]
        rw [e]
        clear e
        have h0 : 0 ≤ a := by omega
        have h1 : a ≤ 65535 := by omega
        go_enter Tryz.func15, Tryz.ntmps15
        go_wp2
        go_ret
        exact ⟨rfl, B.out⟩
      · by_cases hc3 : 65535 < b
        · have e : chkS (a, b) = 1 := by unfold chkS; simp only; rw [if_neg (by omega)]
          rw [e]
          clear e
          have h0 : 0 ≤ a := by omega
          have h1 : a ≤ 65535 := by omega
          have h2 : 0 ≤ b := by omega
          go_enter Tryz.func15, Tryz.ntmps15
          go_wp2
          go_ret
          exact ⟨rfl, B.out⟩
        · by_cases hc4 : b < a
          · have e : chkS (a, b) = 6 := by unfold chkS; simp only; rw [if_pos (by omega), if_neg (by omega)]
            rw [e]
            clear e
            have h0 : 0 ≤ a := by omega
            have h1 : a ≤ 65535 := by omega
            have h2 : 0 ≤ b := by omega
            have h3 : b ≤ 65535 := by omega
            go_enter Tryz.func15, Tryz.ntmps15
            go_wp2
            go_ret
            exact ⟨rfl, B.out⟩
          · have e : chkS (a, b) = 0 := by unfold chkS; simp only; rw [if_pos (by omega), if_pos (by omega)]
            rw [e]
            clear e
            have h0 : 0 ≤ a := by omega
            have h1 : a ≤ 65535 := by omega
            have h2 : 0 ≤ b := by omega
            have h3 : b ≤ 65535 := by omega
            have h4 : a ≤ b := by omega
            go_enter Tryz.func15, Tryz.ntmps15
            go_wp2
            go_ret
            exact ⟨rfl, B.out⟩
/-- What is in both. -/
def meetS (x y : Sp) : Sp × Bool := if chkS x = 0 ∧ chkS y = 0 ∧ max x.1 y.1 ≤ min x.2 y.2 then ((max x.1 y.1, min x.2 y.2), true) else ((0, 0), false)
theorem max_ite (a b : Int) : (if a < b then b else a) = max a b := by rw [Int.max_def]; split <;> split <;> omega
theorem min_ite (a b : Int) : (if b < a then b else a) = min a b := by rw [Int.min_def]; split <;> split <;> omega
theorem chk_meet {x y : Sp} (hx : chkS x = 0) (hy : chkS y = 0) : chkS (max x.1 y.1, min x.2 y.2) = if max x.1 y.1 ≤ min x.2 y.2 then 0 else 6 := by
  have h1 := chkS_ok.1 hx
  have h2 := chkS_ok.1 hy
  unfold OkS at h1 h2
  have : (0 ≤ max x.1 y.1 ∧ max x.1 y.1 ≤ 65535 ∧ 0 ≤ min x.2 y.2 ∧ min x.2 y.2 ≤ 65535) := by omega
  unfold chkS
  rw [if_pos this]
/-- A span in its own block. -/
def SB (W : World) (g : Nat) (a b : Int) : Prop := W.heap[g]? = some (.cells #[.int .i64 a, .int .i64 b] 23 (0, 0))
theorem SB.new (w : World) (a b : Int) : SB (w.alloc (.cells #[.int .i64 a, .int .i64 b] 23)) w.heap.size a b := heap_alloc_new w _
theorem SB.c0 {W : World} {g : Nat} {a b : Int} (h : SB W g a b) : W.cell? ⟨g, 0, none⟩ = some (.int .i64 a) := cell_of_row W _ _ _ _ _ h
theorem SB.c1 {W : World} {g : Nat} {a b : Int} (h : SB W g a b) : W.cell? ⟨g, 1, none⟩ = some (.int .i64 b) := cell_of_row W _ _ _ _ _ h
theorem SB.lt {W : World} {g : Nat} {a b : Int} (h : SB W g a b) : g < W.heap.size := cell_lt (p := ⟨g, 0, none⟩) h.c0
theorem SB.f {W : World} {g : Nat} {a b : Int} (h : SB W g a b) (i : Nat) : W.frozen? ⟨g, i, none⟩ = false := frozen_of_row W _ i _ _ h
theorem SB.next {W W' : World} {g : Nat} {a b : Int} (h : SB W g a b) (hb : Below W.heap.size W W') : SB W' g a b := (hb.block g h.lt).trans h
theorem SB.old {B : Nat} {W W' : World} {g : Nat} {a b : Int} (h : SB W g a b) (hb : Below B W W') (hg : g < B) : SB W' g a b := (hb.block g hg).trans h
theorem SB.two {W : World} {g : Nat} {a b : Int} (h : SB W g a b) (x y : Int) : SB ((W.setCell ⟨g, 0, none⟩ (.int .i64 x)).setCell ⟨g, 1, none⟩ (.int .i64 y)) g x y :=
  heap_setCell_same _ g 1 _ _ (.int .i64 y) (heap_setCell_same W g 0 _ _ (.int .i64 x) h)

end Go.Proofs.YtpalnlbdfmiadaaGreatDoor
