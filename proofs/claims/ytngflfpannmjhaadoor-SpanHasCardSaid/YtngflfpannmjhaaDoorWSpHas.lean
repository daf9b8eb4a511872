/-
  The walk of SpanHas.
-/
import Derived.Test.YtngflfpannmjhaaDoorLive08
import Derived.Deep.RegionHeld3
namespace Go.Proofs.YtngflfpannmjhaaDoor
open Go.RowKit Go.Shelf
set_option linter.unusedVariables false

set_option maxRecDepth 100000 in
set_option maxHeartbeats 6400000 in
theorem sphas_walk (x1 x2 y1 y2 n : Int) (w : World) (hT : Tabs w) :
    Calls Tryd.prog 3 #[.agg #[.int .i64 x1, .int .i64 x2], .agg #[.int .i64 y1, .int .i64 y2], .int .i64 n] w fun e w' => e = .returned (.bool true) ∧ Below w.heap.size w w' := by
  have T := Lib.hid hT
  have C1 := Lib.hid (fun w => smeet_any x1 x2 y1 y2 w)
  have C2 := Lib.hid (fun w => rsmeet_any x1 x2 y1 y2 w)
  have K1 := Lib.hid (fun w => scheck_any x1 x2 w)
  have K2 := Lib.hid (fun w => rscheck_any x1 x2 w)
  have H1 := Lib.hid (fun w => shas_any x1 x2 n w)
  have H2 := Lib.hid (fun w => rshas_any x1 x2 n w)
  generalize chkS (x1, x2) = c at K1 K2
  generalize hasS (x1, x2) n = hb at H1 H2
  obtain ⟨M, hM⟩ : ∃ M, M = meetS (x1, x2) (y1, y2) := ⟨_, rfl⟩
  rw [← hM] at C1 C2
  clear hM hT
  obtain ⟨⟨m1, m2⟩, mb⟩ := M
  have C1 : Hid (∀ w, Calls Tryd.prog 5 #[.agg #[.int .i64 x1, .int .i64 x2], .agg #[.int .i64 y1, .int .i64 y2]] w fun e w' => e = .returned (.tuple #[.agg #[.int .i64 m1, .int .i64 m2], .bool mb]) ∧ Below w.heap.size w w') := C1
  have C2 : Hid (∀ w, Calls Tryd.prog 6 #[.agg #[.int .i64 x1, .int .i64 x2], .agg #[.int .i64 y1, .int .i64 y2]] w fun e w' => e = .returned (.tuple #[.agg #[.int .i64 m1, .int .i64 m2], .bool mb]) ∧ Below w.heap.size w w') := C2
  have hs1 : (w.alloc (.cells #[.int .i64 x1, .int .i64 x2] 23)).heap.size = w.heap.size + 1 := by simp
  have B0 : Hid (Below w.heap.size w ((w.alloc (.cells #[.int .i64 x1, .int .i64 x2] 23)).alloc (.cells #[.int .i64 y1, .int .i64 y2] 23))) := ((Below.refl _ _).alloc (Nat.le_refl _) _).alloc (by rw [hs1]; omega) _
  have X0 := Lib.hid ((SB.new w x1 x2).next ((Below.refl _ _).alloc (Nat.le_refl _) (.cells #[.int .i64 y1, .int .i64 y2] 23)))
  have Y0 := Lib.hid (SB.new (w.alloc (.cells #[.int .i64 x1, .int .i64 x2] 23)) y1 y2)
  rw [hs1] at Y0
  clear hs1
  go_enter Tryd.func3, Tryd.ntmps3
  go_wp2_with fail
  have s0 := X0.out.c0; have s1 := X0.out.c1; have s2 := Y0.out.c0; have s3 := Y0.out.c1
  go_wp2_with fail
  refine (C1.out _).mono ?_
  rintro e w1 ⟨rfl, hb⟩
  have B1 := Lib.hid (below_both B0.out hb)
  have X1 := Lib.hid (X0.out.next hb)
  have Y1 := Lib.hid (Y0.out.next hb)
  clear hb s0 s1 s2 s3 B0 X0 Y0
  have hd := (Below.refl w1.heap.size w1).alloc (Nat.le_refl _) (.cells #[.int .i64 m1, .int .i64 m2] 23)
  have B2 := Lib.hid (below_both B1.out hd)
  have X2 := Lib.hid (X1.out.next hd)
  have Y2 := Lib.hid (Y1.out.next hd)
  have P2 := Lib.hid (SB.new w1 m1 m2)
  clear hd B1 X1 Y1
  have s0 := X2.out.c0; have s1 := X2.out.c1; have s2 := Y2.out.c0; have s3 := Y2.out.c1
  go_wp2_with fail
  refine (C2.out _).mono ?_
  rintro e w2 ⟨rfl, hb⟩
  have B3 := Lib.hid (below_both B2.out hb)
  have X3 := Lib.hid (X2.out.next hb)
  have P3 := Lib.hid (P2.out.next hb)
  clear hb s0 s1 s2 s3 B2 X2 Y2 P2
  have hd := (Below.refl w2.heap.size w2).alloc (Nat.le_refl _) (.cells #[.int .i64 m1, .int .i64 m2] 23)
  have B4 := Lib.hid (below_both B3.out hd)
  have X4 := Lib.hid (X3.out.next hd)
  have P4 := Lib.hid (P3.out.next hd)
  have Q4 := Lib.hid (SB.new w2 m1 m2)
  clear hd B3 X3 P3
  go_wp2_with fail
  have T5 := Lib.hid ((T.out.below B4.out).below (w' := (w2.alloc (.cells #[.int .i64 m1, .int .i64 m2] 23)).drew) (Below.refl _ _).drew)
  generalize w1.heap.size = g7 at P4 ⊢
  generalize w2.heap.size = g9 at Q4 ⊢
  generalize w2.alloc (.cells #[.int .i64 m1, .int .i64 m2] 23) = W at *
  have X5 := Lib.hid (X4.out.next (W' := W.drew) (Below.refl _ _).drew)
  have P5 := Lib.hid (P4.out.next (W' := W.drew) (Below.refl _ _).drew)
  have Q5 := Lib.hid (Q4.out.next (W' := W.drew) (Below.refl _ _).drew)
  have B5 := Lib.hid B4.out.drew
  clear X4 P4 Q4 B4 T C1 C2
  have HD := Lib.hid (fun (w' : World) (hb : Below W.drew.heap.size W.drew w') => And.intro (X5.out.next hb).c0 (And.intro (X5.out.next hb).c1 (And.intro (P5.out.next hb).c0 (And.intro (P5.out.next hb).c1 (And.intro (Q5.out.next hb).c0 (Q5.out.next hb).c1)))))
  have HT := Lib.hid (fun (w' : World) (hb : Below W.drew.heap.size W.drew w') => And.intro (T5.out.below hb) (below_both B5.out hb))
  have D : Hid (Below W.drew.heap.size W.drew W.drew) := Below.refl _ _
  have hS := HD.out _ D.out
  clear X5 P5 Q5 B5 T5
  go_region_held3 (fun w' => w'.cell? ⟨w.heap.size, 0, none⟩ = some (.int .i64 x1) ∧ w'.cell? ⟨w.heap.size, 1, none⟩ = some (.int .i64 x2) ∧ w'.cell? ⟨g7, 0, none⟩ = some (.int .i64 m1) ∧ w'.cell? ⟨g7, 1, none⟩ = some (.int .i64 m2) ∧ w'.cell? ⟨g9, 0, none⟩ = some (.int .i64 m1) ∧ w'.cell? ⟨g9, 1, none⟩ = some (.int .i64 m2))
    (first | exact hS | go_keep)
    (first
      | (go_at_call 7; refine (live08 _ (HT.out _ D.out).1).mono ?_; rintro e w' ⟨rfl, hb⟩; have D := Lib.hid (below_both D.out hb); have hS := HD.out _ D.out; clear hb)
      | (go_at_call 8; refine (K1.out _).mono ?_; rintro e w' ⟨rfl, hb⟩; have D := Lib.hid (below_both D.out hb); have hS := HD.out _ D.out; clear hb)
      | (go_at_call 9; refine (K2.out _).mono ?_; rintro e w' ⟨rfl, hb⟩; have D := Lib.hid (below_both D.out hb); have hS := HD.out _ D.out; clear hb)
      | (go_at_call 10; refine (H1.out _).mono ?_; rintro e w' ⟨rfl, hb⟩; have D := Lib.hid (below_both D.out hb); have hS := HD.out _ D.out; clear hb)
      | (go_at_call 11; refine (H2.out _).mono ?_; rintro e w' ⟨rfl, hb⟩; have D := Lib.hid (below_both D.out hb); have hS := HD.out _ D.out; clear hb)
      | fail)
  all_goals
    go_wp2_with fail
    go_ret
    exact ⟨by simp, (HT.out _ D.out).2⟩
theorem walk_SpanHas (x1 x2 y1 y2 n : Int) (w : World) (hT : Tabs w) (_ : -9223372036854775808 ≤ x1 ∧ x1 ≤ 9223372036854775807) (_ : -9223372036854775808 ≤ x2 ∧ x2 ≤ 9223372036854775807) (_ : -9223372036854775808 ≤ y1 ∧ y1 ≤ 9223372036854775807) (_ : -9223372036854775808 ≤ y2 ∧ y2 ≤ 9223372036854775807) (_ : -9223372036854775808 ≤ n) (_ : n ≤ 9223372036854775807) :
    Calls Tryd.prog 3 #[.agg #[.int .i64 x1, .int .i64 x2], .agg #[.int .i64 y1, .int .i64 y2], .int .i64 n] w fun e w' => e = .returned (.bool true) ∧ Below w.heap.size w w' := sphas_walk x1 x2 y1 y2 n w hT
end Go.Proofs.YtngflfpannmjhaaDoor
