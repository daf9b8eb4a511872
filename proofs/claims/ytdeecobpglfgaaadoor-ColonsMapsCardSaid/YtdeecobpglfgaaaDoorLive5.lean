/-
  The examples of layer 5 come out as they must, in whatever world that holds the table of powers of ten: the contract of weighbridgelaw05.live.
-/
import Derived.Test.YtdeecobpglfgaaaDoorDot4
import Derived.Deep.RegionHeld3
namespace Go.Proofs.YtdeecobpglfgaaaDoor
open Go.RowKit
set_option linter.unusedVariables false
attribute [local go_sem] eq4_run

theorem l5_one (w : World) : Calls Tryd.prog 24 #[.string ⟨#[49, 48, 46, 48, 46, 50, 48, 48, 46, 49]⟩] w fun e w' => e = .returned (.tuple #[.agg #[.int .u8 10, .int .u8 0, .int .u8 200, .int .u8 1], .int .i64 0]) ∧ Below w.heap.size w w' :=
  (parse_any ⟨#[49, 48, 46, 48, 46, 50, 48, 48, 46, 49]⟩ w (by decide)).mono fun e w' ⟨he, hb⟩ => ⟨he, hb⟩
theorem l5_big (w : World) : Calls Tryd.prog 24 #[.string ⟨#[49, 48, 46, 48, 46, 48, 46, 50, 53, 54]⟩] w fun e w' => e = .returned (.tuple #[.agg #[.int .u8 0, .int .u8 0, .int .u8 0, .int .u8 0], .int .i64 1]) ∧ Below w.heap.size w w' :=
  (parse_any ⟨#[49, 48, 46, 48, 46, 48, 46, 50, 53, 54]⟩ w (by decide)).mono fun e w' ⟨he, hb⟩ => ⟨he, hb⟩
theorem l5_form (w : World) : Calls Tryd.prog 24 #[.string ⟨#[49, 48, 46, 48, 46, 48, 48, 46, 49]⟩] w fun e w' => e = .returned (.tuple #[.agg #[.int .u8 0, .int .u8 0, .int .u8 0, .int .u8 0], .int .i64 3]) ∧ Below w.heap.size w w' :=
  (parse_any ⟨#[49, 48, 46, 48, 46, 48, 48, 46, 49]⟩ w (by decide)).mono fun e w' ⟨he, hb⟩ => ⟨he, hb⟩
theorem l5_few (w : World) : Calls Tryd.prog 24 #[.string ⟨#[51, 48, 48, 46, 48, 46, 48]⟩] w fun e w' => e = .returned (.tuple #[.agg #[.int .u8 0, .int .u8 0, .int .u8 0, .int .u8 0], .int .i64 3]) ∧ Below w.heap.size w w' :=
  (parse_any ⟨#[51, 48, 48, 46, 48, 46, 48]⟩ w (by decide)).mono fun e w' ⟨he, hb⟩ => ⟨he, hb⟩
theorem l5_next (w : World) : Calls Tryd.prog 13 #[.agg #[.int .u8 1, .int .u8 2, .int .u8 255, .int .u8 255]] w fun e w' => e = .returned (.tuple #[.agg #[.int .u8 1, .int .u8 3, .int .u8 0, .int .u8 0], .bool true]) ∧ Below w.heap.size w w' :=
  (next_any 1 2 255 255 w (by decide) (by decide) (by decide) (by decide)).mono fun e w' ⟨he, hb⟩ => ⟨he, hb⟩
theorem l5_last (w : World) : Calls Tryd.prog 13 #[.agg #[.int .u8 255, .int .u8 255, .int .u8 255, .int .u8 255]] w fun e w' => e = .returned (.tuple #[.agg #[.int .u8 0, .int .u8 0, .int .u8 0, .int .u8 0], .bool false]) ∧ Below w.heap.size w w' :=
  (next_any 255 255 255 255 w (by decide) (by decide) (by decide) (by decide)).mono fun e w' ⟨he, hb⟩ => ⟨he, hb⟩
theorem dec_10 : Lib.decDigits 10 = [49, 48] := by rw [dec_step (by decide), dec_small (by decide)]; rfl
theorem dec_200 : Lib.decDigits 200 = [50, 48, 48] := by rw [dec_step (by decide), dec_step (by decide), dec_small (by decide)]; rfl
theorem dec_255 : Lib.decDigits 255 = [50, 53, 53] := by rw [dec_step (by decide), dec_step (by decide), dec_small (by decide)]; rfl
theorem dstr_one : dstr 10 0 200 1 = ⟨#[49, 48, 46, 48, 46, 50, 48, 48, 46, 49]⟩ := by
  unfold dstr dtext
  rw [dec_10, dec_200, dec_small (by decide : 0 < 10), dec_small (by decide : 1 < 10)]
  rfl
theorem l5_print (w : World) (hT : Pow w) : Calls Tryd.prog 16 #[.agg #[.int .u8 10, .int .u8 0, .int .u8 200, .int .u8 1]] w fun e w' => e = .returned (.string ⟨#[49, 48, 46, 48, 46, 50, 48, 48, 46, 49]⟩) ∧ Below w.heap.size w w' :=
  (print_any 10 0 200 1 w (by decide) (by decide) (by decide) (by decide) hT).mono fun e w' ⟨he, hb⟩ => ⟨by rw [he, dstr_one], hb⟩
theorem l5_num (w : World) : Calls Tryd.prog 18 #[.agg #[.int .u8 10, .int .u8 0, .int .u8 200, .int .u8 1]] w fun e w' => e = .returned (.int .u32 167823361) ∧ Below w.heap.size w w' :=
  (dnum_any 10 0 200 1 w (by decide) (by decide) (by decide) (by decide)).mono fun e w' ⟨he, hb⟩ => ⟨he, hb⟩
theorem l5_of (w : World) : Calls Tryd.prog 20 #[.int .u32 167823361] w fun e w' => e = .returned (.agg #[.int .u8 10, .int .u8 0, .int .u8 200, .int .u8 1]) ∧ Below w.heap.size w w' :=
  (dof_any 167823361 w (by decide)).mono fun e w' ⟨he, hb⟩ => ⟨he, hb⟩
theorem l5_sort (w : World) : Calls Tryd.prog 22 #[.agg #[.int .u8 10, .int .u8 0, .int .u8 200, .int .u8 1]] w fun e w' => e = .returned (.string ⟨#[112, 114, 105, 118, 97, 116, 101]⟩) ∧ Below w.heap.size w w' :=
  (sort_any 10 0 200 1 w).mono fun e w' ⟨he, hb⟩ => ⟨he, hb⟩

/-- Two blocks hold four bytes each. -/
def Quads (W : World) (g h : Nat) : Prop :=
  W.cell? ⟨g, 0, none⟩ = some (.int .u8 10) ∧ W.cell? ⟨g, 1, none⟩ = some (.int .u8 0) ∧ W.cell? ⟨g, 2, none⟩ = some (.int .u8 200) ∧ W.cell? ⟨g, 3, none⟩ = some (.int .u8 1) ∧ W.cell? ⟨h, 0, none⟩ = some (.int .u8 1) ∧ W.cell? ⟨h, 1, none⟩ = some (.int .u8 3) ∧ W.cell? ⟨h, 2, none⟩ = some (.int .u8 0) ∧ W.cell? ⟨h, 3, none⟩ = some (.int .u8 0)
theorem Quads.below {W W' : World} {g h : Nat} (k : Quads W g h) (hb : Below W.heap.size W W') : Quads W' g h := by
  obtain ⟨a, b, c, d, e, f, i, j⟩ := k
  exact ⟨(hb.cell (cell_lt a)).trans a, (hb.cell (cell_lt b)).trans b, (hb.cell (cell_lt c)).trans c, (hb.cell (cell_lt d)).trans d, (hb.cell (cell_lt e)).trans e, (hb.cell (cell_lt f)).trans f, (hb.cell (cell_lt i)).trans i, (hb.cell (cell_lt j)).trans j⟩
theorem Quads.drew {W : World} {g h : Nat} (k : Quads W g h) : Quads W.drew g h := k

set_option maxRecDepth 10000 in
set_option maxHeartbeats 3200000 in
theorem live5 (w : World) (hT : Pow w) : Calls Tryd.prog 15 #[] w fun e w' => e = .returned (.bool true) ∧ Below w.heap.size w w' := by
  have HT := Lib.hid hT
  clear hT
  go_enter Tryd.func15, Tryd.ntmps15
  go_wp2_with fail
  refine (l5_one _).mono ?_
  rintro e w1 ⟨rfl, b1⟩
  have B1 := Lib.hid b1
  clear b1
  have Q1 : Hid (ArrAt (w1.alloc (.cells #[.int .u8 10, .int .u8 0, .int .u8 200, .int .u8 1] 22)) w1.heap.size [10, 0, 200, 1]) := heap_alloc_new w1 _
  have B1' := Lib.hid (B1.out.alloc B1.out.size (.cells #[.int .u8 10, .int .u8 0, .int .u8 200, .int .u8 1] 22))
  go_wp2_with fail
  refine (l5_big _).mono ?_
  rintro e w2 ⟨rfl, b2⟩
  have Q2 := Lib.hid (Q1.out.below b2)
  have B2 := Lib.hid (below_both B1'.out b2)
  clear b2 B1 B1' Q1
  go_wp2_with fail
  refine (l5_form _).mono ?_
  rintro e w3 ⟨rfl, b3⟩
  have Q3 := Lib.hid ((Q2.out.alloc (.cells #[.int .u8 0, .int .u8 0, .int .u8 0, .int .u8 0] 22)).below b3)
  have B3 := Lib.hid (below_both (B2.out.alloc B2.out.size (.cells #[.int .u8 0, .int .u8 0, .int .u8 0, .int .u8 0] 22)) b3)
  clear b3 B2 Q2
  go_wp2_with fail
  refine (l5_few _).mono ?_
  rintro e w4 ⟨rfl, b4⟩
  have Q4 := Lib.hid ((Q3.out.alloc (.cells #[.int .u8 0, .int .u8 0, .int .u8 0, .int .u8 0] 22)).below b4)
  have B4 := Lib.hid (below_both (B3.out.alloc B3.out.size (.cells #[.int .u8 0, .int .u8 0, .int .u8 0, .int .u8 0] 22)) b4)
  clear b4 B3 Q3
  go_wp2_with fail
  refine (l5_next _).mono ?_
  rintro e w5 ⟨rfl, b5⟩
  have Q5 := Lib.hid ((Q4.out.alloc (.cells #[.int .u8 0, .int .u8 0, .int .u8 0, .int .u8 0] 22)).below b5)
  have B5 := Lib.hid (below_both (B4.out.alloc B4.out.size (.cells #[.int .u8 0, .int .u8 0, .int .u8 0, .int .u8 0] 22)) b5)
  clear b5 B4 Q4
  have R5 : Hid (ArrAt (w5.alloc (.cells #[.int .u8 1, .int .u8 3, .int .u8 0, .int .u8 0] 22)) w5.heap.size [1, 3, 0, 0]) := heap_alloc_new w5 _
  go_wp2_with fail
  refine (l5_last _).mono ?_
  rintro e w6 ⟨rfl, b6⟩
  have Q6 := Lib.hid ((Q5.out.alloc (.cells #[.int .u8 1, .int .u8 3, .int .u8 0, .int .u8 0] 22)).below b6)
  have R6 := Lib.hid (R5.out.below b6)
  have B6 := Lib.hid (below_both (B5.out.alloc B5.out.size (.cells #[.int .u8 1, .int .u8 3, .int .u8 0, .int .u8 0] 22)) b6)
  clear b6 B5 Q5 R5
  have h0 : Quads (w6.alloc (.cells #[.int .u8 0, .int .u8 0, .int .u8 0, .int .u8 0] 22)) w1.heap.size w5.heap.size :=
    ⟨(Q6.out.alloc _).cell 0 (by decide), (Q6.out.alloc _).cell 1 (by decide), (Q6.out.alloc _).cell 2 (by decide), (Q6.out.alloc _).cell 3 (by decide),
      (R6.out.alloc _).cell 0 (by decide), (R6.out.alloc _).cell 1 (by decide), (R6.out.alloc _).cell 2 (by decide), (R6.out.alloc _).cell 3 (by decide)⟩
  have BB := Lib.hid (B6.out.alloc B6.out.size (.cells #[.int .u8 0, .int .u8 0, .int .u8 0, .int .u8 0] 22))
  go_wp2_with fail
  have q1 : same4 10 0 200 1 10 0 200 1 = true := rfl
  have q2 : same4 1 3 0 0 1 3 0 0 = true := rfl
  have HP := Lib.hid (HT.out.below BB.out)
  have hT := Lib.hid h0
  generalize w6.alloc (.cells #[.int .u8 0, .int .u8 0, .int .u8 0, .int .u8 0] 22) = W at *
  generalize w1.heap.size = g at *
  generalize w5.heap.size = g9 at *
  go_region_held3 (fun w' => w'.cell? ⟨g, 0, none⟩ = some (.int .u8 10) ∧ w'.cell? ⟨g, 1, none⟩ = some (.int .u8 0) ∧ w'.cell? ⟨g, 2, none⟩ = some (.int .u8 200) ∧ w'.cell? ⟨g, 3, none⟩ = some (.int .u8 1) ∧ w'.cell? ⟨g9, 0, none⟩ = some (.int .u8 1) ∧ w'.cell? ⟨g9, 1, none⟩ = some (.int .u8 3) ∧ w'.cell? ⟨g9, 2, none⟩ = some (.int .u8 0) ∧ w'.cell? ⟨g9, 3, none⟩ = some (.int .u8 0))
    (first | exact h0 | exact hTwo | go_keep)
    (first
      | (go_at_call 16; (refine (l5_print _ (HT.out.below BB.out.drew)).mono ?_); rintro e w' ⟨rfl, hb'⟩; have BB := Lib.hid (below_both BB.out.drew hb')
         have hTwo : Quads w' g g9 := Quads.below (W := W.drew) h0 hb'
         have hT := Lib.hid hTwo)
      | (go_at_call 18; (refine (l5_num _).mono ?_); rintro e w' ⟨rfl, hb'⟩; have BB := Lib.hid (below_both BB.out hb')
         have hTwo : Quads w' g g9 := hT.out.below hb'
         have hT := Lib.hid hTwo)
      | (go_at_call 20; (refine (l5_of _).mono ?_); rintro e w' ⟨rfl, hb'⟩; have BB := Lib.hid (below_both BB.out hb')
         have hTwo : Quads w' g g9 := hT.out.below hb'
         have hT := Lib.hid hTwo)
      | (go_at_call 22; (refine (l5_sort _).mono ?_); rintro e w' ⟨rfl, hb'⟩; have BB := Lib.hid (below_both BB.out hb')
         have hTwo : Quads w' g g9 := hT.out.below hb'
         have hT := Lib.hid hTwo)
      | fail)
  all_goals
    go_wp2_with fail
    go_ret
    exact ⟨by simp, BB.out⟩
end Go.Proofs.YtdeecobpglfgaaaDoor
