/-
  The walk of the statement WideAdds.
-/
import Derived.Test.YtbnheffeojnjdaaLive2
import Derived.Test.YtbnheffeojnjdaaRef2c
import Derived.Test.YtbnheffeojnjdaaRef2e
import Derived.Test.YtbnheffeojnjdaaRef2f
import Derived.Test.YtbnheffeojnjdaaRof
import Derived.Deep.RegionHeld3
namespace Go.Proofs.Ytbnheffeojnjdaa
open Go.RowKit
set_option linter.unusedVariables false
attribute [local go_sem ↓] Go.wp_at_zero Go.wp_at_succ

/-- Both tell which is less alike. -/
theorem less_tells (a b c d : Nat) (t : Bool) (w : World) (hb : b ≤ 18446744073709551615) (hd : d ≤ 18446744073709551615) (ht : Hid (t = decide (wnum a b < wnum c d))) :
    Calls Try.prog 36 #[.agg #[.int .u64 a, .int .u64 b], .agg #[.int .u64 c, .int .u64 d]] w fun e w' => e = .returned (.bool t) ∧ Below w.heap.size w w' := by
  have h := ht.out
  by_cases hlt : wnum a b < wnum c d
  · rw [decide_eq_true hlt] at h
    subst h
    exact less_yes a b c d w hb hd hlt
  · rw [decide_eq_false hlt] at h
    subst h
    exact less_no a b c d w hb hd hlt

set_option maxRecDepth 10000 in
set_option maxHeartbeats 1600000 in
theorem walk_WideAdds (a b c d : Nat) (w : World) (ha : a ≤ 18446744073709551615) (hb : b ≤ 18446744073709551615) (hc : c ≤ 18446744073709551615) (hd : d ≤ 18446744073709551615) :
    Calls Try.prog 8 #[.agg #[.int .u64 a, .int .u64 b], .agg #[.int .u64 c, .int .u64 d]] w fun e w' => e = .returned (.bool true) ∧ Below w.heap.size w w' := by
  obtain ⟨A, hA⟩ : ∃ A, A = wnum a b := ⟨_, rfl⟩
  obtain ⟨B, hB⟩ : ∃ B, B = wnum c d := ⟨_, rfl⟩
  obtain ⟨x, hx⟩ : ∃ x, x = whi (A + B) := ⟨_, rfl⟩
  obtain ⟨y, hy⟩ : ∃ y, y = wlo (A + B) := ⟨_, rfl⟩
  obtain ⟨s, hs⟩ : ∃ s, s = decide (w128 ≤ A + B) := ⟨_, rfl⟩
  obtain ⟨z, hz⟩ : ∃ z, z = whi (A + w128 - B) := ⟨_, rfl⟩
  obtain ⟨u, hu⟩ : ∃ u, u = wlo (A + w128 - B) := ⟨_, rfl⟩
  obtain ⟨t, ht⟩ : ∃ t, t = decide (A < B) := ⟨_, rfl⟩
  have C1 : Hid (∀ w, Calls Try.prog 31 #[.agg #[.int .u64 a, .int .u64 b], .agg #[.int .u64 c, .int .u64 d]] w fun e w' => e = .returned (.tuple #[.agg #[.int .u64 x, .int .u64 y], .bool s]) ∧ Below w.heap.size w w') := by
    rw [hx, hy, hs]; exact fun w => add_raw a b c d (A + B) _ w ha hb hc hd (by rw [hA, hB]; rfl) rfl
  have C2 : Hid (∀ w, Calls Try.prog 32 #[.agg #[.int .u64 a, .int .u64 b], .agg #[.int .u64 c, .int .u64 d]] w fun e w' => e = .returned (.tuple #[.agg #[.int .u64 x, .int .u64 y], .bool s]) ∧ Below w.heap.size w w') := by
    rw [hx, hy, hs]; exact fun w => radd_any a b c d A B w ha hb hc hd hA hB
  have C3 : Hid (∀ w, Calls Try.prog 33 #[.agg #[.int .u64 a, .int .u64 b], .agg #[.int .u64 c, .int .u64 d]] w fun e w' => e = .returned (.tuple #[.agg #[.int .u64 z, .int .u64 u], .bool t]) ∧ Below w.heap.size w w') := by
    rw [hz, hu, ht]; exact fun w => sub_raw a b c d (A + w128 - B) _ w ha hb hc hd (by rw [hA, hB]; rfl) (by rw [hA, hB]; rfl)
  have C4 : Hid (∀ w, Calls Try.prog 34 #[.agg #[.int .u64 a, .int .u64 b], .agg #[.int .u64 c, .int .u64 d]] w fun e w' => e = .returned (.tuple #[.agg #[.int .u64 z, .int .u64 u], .bool t]) ∧ Below w.heap.size w w') := by
    rw [hz, hu, ht]; exact fun w => rsub_any a b c d A B w ha hb hc hd hA hB
  have C5 : Hid (∀ w, Calls Try.prog 36 #[.agg #[.int .u64 a, .int .u64 b], .agg #[.int .u64 c, .int .u64 d]] w fun e w' => e = .returned (.bool t) ∧ Below w.heap.size w w') :=
    fun w => less_tells a b c d t w hb hd (by rw [ht, hA, hB]; rfl)
  have C6 : Hid (∀ w, Calls Try.prog 37 #[.agg #[.int .u64 a, .int .u64 b], .agg #[.int .u64 c, .int .u64 d]] w fun e w' => e = .returned (.bool t) ∧ Below w.heap.size w w') := by
    rw [ht]; exact fun w => rless_any a b c d A B w ha hb hc hd hA hB
  clear hA hB hx hy hs hz hu ht
  go_enter Try.func8, Try.ntmps8
  go_wp2_with fail
  refine (C1.out _).mono ?_
  rintro e w1 ⟨rfl, b1⟩
  have TA := Lib.hid (((Two.new w (a : Int) (b : Int)).alloc (.cells #[.int .u64 c, .int .u64 d] 49)).below b1)
  have TC := (Two.new (w.alloc (.cells #[.int .u64 a, .int .u64 b] 49)) (c : Int) (d : Int)).below b1
  simp only [World.size_alloc] at TC
  have TC := Lib.hid TC
  have B1 := Lib.hid (below_al2 b1)
  clear b1
  obtain ⟨a0, a1⟩ := TA.out.alloc (.cells #[.int .u64 x, .int .u64 y] 49)
  obtain ⟨c0, c1⟩ := TC.out.alloc (.cells #[.int .u64 x, .int .u64 y] 49)
  go_wp2_with fail
  refine (C2.out _).mono ?_
  rintro e w2 ⟨rfl, b2⟩
  have TA := Lib.hid ((TA.out.alloc (.cells #[.int .u64 x, .int .u64 y] 49)).below b2)
  have TC := Lib.hid ((TC.out.alloc (.cells #[.int .u64 x, .int .u64 y] 49)).below b2)
  have T5 := Lib.hid ((Two.new w1 (x : Int) (y : Int)).below b2)
  have B2 := Lib.hid (below_both B1.out (below_al b2))
  clear b2 a0 a1 c0 c1 B1
  obtain ⟨a0, a1⟩ := TA.out.alloc (.cells #[.int .u64 x, .int .u64 y] 49)
  obtain ⟨c0, c1⟩ := TC.out.alloc (.cells #[.int .u64 x, .int .u64 y] 49)
  go_wp2_with fail
  refine (C3.out _).mono ?_
  rintro e w3 ⟨rfl, b3⟩
  have TA := Lib.hid ((TA.out.alloc (.cells #[.int .u64 x, .int .u64 y] 49)).below b3)
  have TC := Lib.hid ((TC.out.alloc (.cells #[.int .u64 x, .int .u64 y] 49)).below b3)
  have T5 := Lib.hid ((T5.out.alloc (.cells #[.int .u64 x, .int .u64 y] 49)).below b3)
  have T7 := Lib.hid ((Two.new w2 (x : Int) (y : Int)).below b3)
  have B3 := Lib.hid (below_both B2.out (below_al b3))
  clear b3 a0 a1 c0 c1 B2
  obtain ⟨a0, a1⟩ := TA.out.alloc (.cells #[.int .u64 z, .int .u64 u] 49)
  obtain ⟨c0, c1⟩ := TC.out.alloc (.cells #[.int .u64 z, .int .u64 u] 49)
  go_wp2_with fail
  refine (C4.out _).mono ?_
  rintro e w4 ⟨rfl, b4⟩
  have TA := Lib.hid ((TA.out.alloc (.cells #[.int .u64 z, .int .u64 u] 49)).below b4)
  have TC := Lib.hid ((TC.out.alloc (.cells #[.int .u64 z, .int .u64 u] 49)).below b4)
  have T5 := Lib.hid ((T5.out.alloc (.cells #[.int .u64 z, .int .u64 u] 49)).below b4)
  have T7 := Lib.hid ((T7.out.alloc (.cells #[.int .u64 z, .int .u64 u] 49)).below b4)
  have T9 := Lib.hid ((Two.new w3 (z : Int) (u : Int)).below b4)
  have B4 := Lib.hid (below_both B3.out (below_al b4))
  clear b4 a0 a1 c0 c1 B3
  go_wp2_with fail
  have BB := Lib.hid (B4.out.alloc B4.out.size (.cells #[.int .u64 z, .int .u64 u] 49))
  have h0 := (TA.out.alloc (.cells #[.int .u64 z, .int .u64 u] 49))
  have h1 := (TC.out.alloc (.cells #[.int .u64 z, .int .u64 u] 49))
  have h2 := (T5.out.alloc (.cells #[.int .u64 z, .int .u64 u] 49))
  have h3 := (T7.out.alloc (.cells #[.int .u64 z, .int .u64 u] 49))
  have h4 := (T9.out.alloc (.cells #[.int .u64 z, .int .u64 u] 49))
  have h5 := Two.new w4 (z : Int) (u : Int)
  generalize w4.alloc (.cells #[.int .u64 z, .int .u64 u] 49) = w5 at *
  generalize w1.heap.size = g1 at *
  generalize w2.heap.size = g2 at *
  generalize w3.heap.size = g3 at *
  generalize w4.heap.size = g4 at *
  clear TA TC T5 T7 T9 B4
  go_region_held3 (fun w' => (w'.cell? ⟨w.heap.size, 0, none⟩ = some (.int .u64 a) ∧ w'.cell? ⟨w.heap.size, 1, none⟩ = some (.int .u64 b)) ∧ (w'.cell? ⟨w.heap.size + 1, 0, none⟩ = some (.int .u64 c) ∧ w'.cell? ⟨w.heap.size + 1, 1, none⟩ = some (.int .u64 d)) ∧
      (w'.cell? ⟨g1, 0, none⟩ = some (.int .u64 x) ∧ w'.cell? ⟨g1, 1, none⟩ = some (.int .u64 y)) ∧ (w'.cell? ⟨g2, 0, none⟩ = some (.int .u64 x) ∧ w'.cell? ⟨g2, 1, none⟩ = some (.int .u64 y)) ∧
      (w'.cell? ⟨g3, 0, none⟩ = some (.int .u64 z) ∧ w'.cell? ⟨g3, 1, none⟩ = some (.int .u64 u)) ∧ (w'.cell? ⟨g4, 0, none⟩ = some (.int .u64 z) ∧ w'.cell? ⟨g4, 1, none⟩ = some (.int .u64 u)))
    (first | exact ⟨h0, h1, h2, h3, h4, h5⟩ | exact ⟨hTwo.1, hTwo.2.1, hTwo.2.2.1, hTwo.2.2.2.1, hTwo.2.2.2.2.1, hTwo.2.2.2.2.2⟩ | go_keep)
    (first
      | (go_at_call 35; (refine (live2 _).mono ?_); rintro e w' ⟨rfl, hb'⟩; have BB := Lib.hid (below_both BB.out.drew hb')
         have hTwo : Two w' w.heap.size a b ∧ Two w' (w.heap.size + 1) c d ∧ Two w' g1 x y ∧ Two w' g2 x y ∧ Two w' g3 z u ∧ Two w' g4 z u := ⟨Two.below (w := w5.drew) h0 hb', Two.below (w := w5.drew) h1 hb', Two.below (w := w5.drew) h2 hb', Two.below (w := w5.drew) h3 hb', Two.below (w := w5.drew) h4 hb', Two.below (w := w5.drew) h5 hb'⟩
         have hT := Lib.hid hTwo)
      | (go_at_call 36; (refine (C5.out _).mono ?_); rintro e w' ⟨rfl, hb'⟩; have BB := Lib.hid (below_both BB.out hb')
         have hTwo : Two w' w.heap.size a b ∧ Two w' (w.heap.size + 1) c d ∧ Two w' g1 x y ∧ Two w' g2 x y ∧ Two w' g3 z u ∧ Two w' g4 z u := ⟨hT.out.1.below hb', hT.out.2.1.below hb', hT.out.2.2.1.below hb', hT.out.2.2.2.1.below hb', hT.out.2.2.2.2.1.below hb', hT.out.2.2.2.2.2.below hb'⟩
         have hT := Lib.hid hTwo)
      | (go_at_call 37; (refine (C6.out _).mono ?_); rintro e w' ⟨rfl, hb'⟩; have BB := Lib.hid (below_both BB.out hb')
         have hTwo : Two w' w.heap.size a b ∧ Two w' (w.heap.size + 1) c d ∧ Two w' g1 x y ∧ Two w' g2 x y ∧ Two w' g3 z u ∧ Two w' g4 z u := ⟨hT.out.1.below hb', hT.out.2.1.below hb', hT.out.2.2.1.below hb', hT.out.2.2.2.1.below hb', hT.out.2.2.2.2.1.below hb', hT.out.2.2.2.2.2.below hb'⟩
         have hT := Lib.hid hTwo)
      | (go_at_call 38; (refine (of_any b _).mono ?_); rintro e w' ⟨rfl, hb'⟩; have BB := Lib.hid (below_both BB.out hb')
         have hTwo : Two w' w.heap.size a b ∧ Two w' (w.heap.size + 1) c d ∧ Two w' g1 x y ∧ Two w' g2 x y ∧ Two w' g3 z u ∧ Two w' g4 z u := ⟨hT.out.1.below hb', hT.out.2.1.below hb', hT.out.2.2.1.below hb', hT.out.2.2.2.1.below hb', hT.out.2.2.2.2.1.below hb', hT.out.2.2.2.2.2.below hb'⟩
         have hT := Lib.hid hTwo)
      | (go_at_call 39; (refine (rof_any b _).mono ?_); rintro e w' ⟨rfl, hb'⟩; have BB := Lib.hid (below_both BB.out hb')
         have hTwo : Two w' w.heap.size a b ∧ Two w' (w.heap.size + 1) c d ∧ Two w' g1 x y ∧ Two w' g2 x y ∧ Two w' g3 z u ∧ Two w' g4 z u := ⟨hT.out.1.below hb', hT.out.2.1.below hb', hT.out.2.2.1.below hb', hT.out.2.2.2.1.below hb', hT.out.2.2.2.2.1.below hb', hT.out.2.2.2.2.2.below hb'⟩
         have hT := Lib.hid hTwo)
      | fail)
  all_goals
    go_wp2_with fail
    go_ret
    exact ⟨by simp, BB.out⟩
end Go.Proofs.Ytbnheffeojnjdaa
