/-
  The walk of the statement DottedPrints.
-/
import Derived.Test.YtdeecobpglfgaaaDoorRDot
import Derived.Test.YtdeecobpglfgaaaDoorWDBack
namespace Go.Proofs.YtdeecobpglfgaaaDoor
open Go.RowKit
set_option linter.unusedVariables false
attribute [local go_sem] eq4_run

theorem dnext_form (a b c d : Nat) : ∃ (m0 m1 m2 m3 : Nat) (o : Bool), dnext a b c d = .tuple #[.agg #[.int .u8 m0, .int .u8 m1, .int .u8 m2, .int .u8 m3], .bool o] := by
  unfold dnext quad
  by_cases h : dnum a b c d = 4294967295
  · rw [if_pos h]
    exact ⟨0, 0, 0, 0, _, rfl⟩
  · rw [if_neg h]
    exact ⟨_, _, _, _, _, rfl⟩
/-- Three blocks hold four bytes each. -/
def Tri (W : World) (g h k : Nat) (a b c d x y z u : Int) : Prop :=
  W.cell? ⟨g, 0, none⟩ = some (.int .u8 a) ∧ W.cell? ⟨g, 1, none⟩ = some (.int .u8 b) ∧ W.cell? ⟨g, 2, none⟩ = some (.int .u8 c) ∧ W.cell? ⟨g, 3, none⟩ = some (.int .u8 d) ∧
  W.cell? ⟨h, 0, none⟩ = some (.int .u8 x) ∧ W.cell? ⟨h, 1, none⟩ = some (.int .u8 y) ∧ W.cell? ⟨h, 2, none⟩ = some (.int .u8 z) ∧ W.cell? ⟨h, 3, none⟩ = some (.int .u8 u) ∧
  W.cell? ⟨k, 0, none⟩ = some (.int .u8 x) ∧ W.cell? ⟨k, 1, none⟩ = some (.int .u8 y) ∧ W.cell? ⟨k, 2, none⟩ = some (.int .u8 z) ∧ W.cell? ⟨k, 3, none⟩ = some (.int .u8 u)
theorem Tri.below {W W' : World} {g h k : Nat} {a b c d x y z u : Int} (q : Tri W g h k a b c d x y z u) (hb : Below W.heap.size W W') : Tri W' g h k a b c d x y z u := by
  obtain ⟨k1, k2, k3, k4, k5, k6, k7, k8, k9, k10, k11, k12⟩ := q
  exact ⟨(hb.cell (cell_lt k1)).trans k1, (hb.cell (cell_lt k2)).trans k2, (hb.cell (cell_lt k3)).trans k3, (hb.cell (cell_lt k4)).trans k4, (hb.cell (cell_lt k5)).trans k5, (hb.cell (cell_lt k6)).trans k6, (hb.cell (cell_lt k7)).trans k7, (hb.cell (cell_lt k8)).trans k8,
    (hb.cell (cell_lt k9)).trans k9, (hb.cell (cell_lt k10)).trans k10, (hb.cell (cell_lt k11)).trans k11, (hb.cell (cell_lt k12)).trans k12⟩
theorem Tri.of {W : World} {g h k a b c d x y z u : Nat} (h1 : ArrAt W g [a, b, c, d]) (h2 : ArrAt W h [x, y, z, u]) (h3 : ArrAt W k [x, y, z, u]) : Tri W g h k a b c d x y z u :=
  ⟨h1.cell 0 (by simp), h1.cell 1 (by simp), h1.cell 2 (by simp), h1.cell 3 (by simp), h2.cell 0 (by simp), h2.cell 1 (by simp), h2.cell 2 (by simp), h2.cell 3 (by simp), h3.cell 0 (by simp), h3.cell 1 (by simp), h3.cell 2 (by simp), h3.cell 3 (by simp)⟩

set_option maxRecDepth 10000 in
set_option maxHeartbeats 6400000 in
theorem walk_DottedPrints (zs0 : List Int) (n : Nat) (w : World) (hT : Pow w) (hn0 : zs0.length = 4) (hz0 : ∀ z ∈ zs0, (Lit.int .u8 z).wf = true) (hn : n ≤ 4294967295) :
    Calls Tryd.prog 3 #[.agg (zs0.map (Value.int .u8)).toArray, .int .u32 n] w fun e w' => e = .returned (.bool true) ∧ Below w.heap.size w w' := by
  obtain ⟨a, b, c, d, rfl, ha, hb, hc, hd⟩ := four_bytes hn0 hz0
  clear hn0 hz0
  have HT := Lib.hid hT
  clear hT
  show Calls Tryd.prog 3 #[.agg #[.int .u8 a, .int .u8 b, .int .u8 c, .int .u8 d], .int .u32 n] w _
  obtain ⟨m0, m1, m2, m3, o, hm⟩ := dnext_form a b c d
  obtain ⟨s, hs⟩ : ∃ s, s = dstr a b c d := ⟨_, rfl⟩
  obtain ⟨t, ht⟩ : ∃ t, t = dsort a b c d := ⟨_, rfl⟩
  obtain ⟨q, hq⟩ : ∃ q, q = dnum a b c d := ⟨_, rfl⟩
  obtain ⟨x0, h0⟩ : ∃ x, x = n / 16777216 % 256 := ⟨_, rfl⟩
  obtain ⟨x1, h1⟩ : ∃ x, x = n / 65536 % 256 := ⟨_, rfl⟩
  obtain ⟨x2, h2⟩ : ∃ x, x = n / 256 % 256 := ⟨_, rfl⟩
  obtain ⟨x3, h3⟩ : ∃ x, x = n % 256 := ⟨_, rfl⟩
  have C1 : Hid (∀ w, Calls Tryd.prog 13 #[.agg #[.int .u8 a, .int .u8 b, .int .u8 c, .int .u8 d]] w fun e w' => e = .returned (.tuple #[.agg #[.int .u8 m0, .int .u8 m1, .int .u8 m2, .int .u8 m3], .bool o]) ∧ Below w.heap.size w w') := fun w => by rw [← hm]; exact next_any a b c d w ha hb hc hd
  have C2 : Hid (∀ w, Calls Tryd.prog 14 #[.agg #[.int .u8 a, .int .u8 b, .int .u8 c, .int .u8 d]] w fun e w' => e = .returned (.tuple #[.agg #[.int .u8 m0, .int .u8 m1, .int .u8 m2, .int .u8 m3], .bool o]) ∧ Below w.heap.size w w') := fun w => by rw [← hm]; exact rnext_four a b c d w ha hb hc hd
  have C3 : Hid (∀ w, Pow w → Calls Tryd.prog 16 #[.agg #[.int .u8 a, .int .u8 b, .int .u8 c, .int .u8 d]] w fun e w' => e = .returned (.string s) ∧ Below w.heap.size w w') := fun w h => by rw [hs]; exact print_any a b c d w ha hb hc hd h
  have C4 : Hid (∀ w, Calls Tryd.prog 17 #[.agg #[.int .u8 a, .int .u8 b, .int .u8 c, .int .u8 d]] w fun e w' => e = .returned (.string s) ∧ Below w.heap.size w w') := fun w => by rw [hs]; exact rprint_four a b c d w ha hb hc hd
  have C5 : Hid (∀ w, Calls Tryd.prog 18 #[.agg #[.int .u8 a, .int .u8 b, .int .u8 c, .int .u8 d]] w fun e w' => e = .returned (.int .u32 q) ∧ Below w.heap.size w w') := fun w => by rw [hq]; exact dnum_any a b c d w ha hb hc hd
  have C6 : Hid (∀ w, Calls Tryd.prog 19 #[.agg #[.int .u8 a, .int .u8 b, .int .u8 c, .int .u8 d]] w fun e w' => e = .returned (.int .u32 q) ∧ Below w.heap.size w w') := fun w => by rw [hq]; exact rnum_four a b c d w ha hb hc hd
  have C7 : Hid (∀ w, Calls Tryd.prog 20 #[.int .u32 n] w fun e w' => e = .returned (.agg #[.int .u8 x0, .int .u8 x1, .int .u8 x2, .int .u8 x3]) ∧ Below w.heap.size w w') := fun w => by rw [h0, h1, h2, h3]; exact dof_any n w hn
  have C8 : Hid (∀ w, Calls Tryd.prog 21 #[.int .u32 n] w fun e w' => e = .returned (.agg #[.int .u8 x0, .int .u8 x1, .int .u8 x2, .int .u8 x3]) ∧ Below w.heap.size w w') := fun w => by rw [h0, h1, h2, h3]; exact rof_four n w hn
  have C9 : Hid (∀ w, Calls Tryd.prog 22 #[.agg #[.int .u8 a, .int .u8 b, .int .u8 c, .int .u8 d]] w fun e w' => e = .returned (.string t) ∧ Below w.heap.size w w') := fun w => by rw [ht]; exact sort_any a b c d w
  have C10 : Hid (∀ w, Calls Tryd.prog 23 #[.agg #[.int .u8 a, .int .u8 b, .int .u8 c, .int .u8 d]] w fun e w' => e = .returned (.string t) ∧ Below w.heap.size w w') := fun w => by rw [ht]; exact rsort_four a b c d w
  have Q1 := same_self x0 x1 x2 x3
  have Q2 := same_self m0 m1 m2 m3
  clear hm hs ht hq h0 h1 h2 h3
  have AA : Hid (ArrAt (w.alloc (.cells #[.int .u8 a, .int .u8 b, .int .u8 c, .int .u8 d] 22)) w.heap.size [a, b, c, d]) := heap_alloc_new w _
  have BB : Hid (Below w.heap.size w (w.alloc (.cells #[.int .u8 a, .int .u8 b, .int .u8 c, .int .u8 d] 22))) := (Below.refl _ _).alloc (Nat.le_refl _) _
  have c0 := AA.out.cell 0 (by simp)
  have c1 := AA.out.cell 1 (by simp)
  have c2 := AA.out.cell 2 (by simp)
  have c3 := AA.out.cell 3 (by simp)
  simp at c0 c1 c2 c3
  go_enter Tryd.func3, Tryd.ntmps3
  go_wp2_with fail
  refine (C1.out _).mono ?_
  rintro e w1 ⟨rfl, b1⟩
  clear c0 c1 c2 c3
  have AA := Lib.hid ((AA.out.below b1).alloc (.cells #[.int .u8 m0, .int .u8 m1, .int .u8 m2, .int .u8 m3] 22))
  have MM : Hid (ArrAt (w1.alloc (.cells #[.int .u8 m0, .int .u8 m1, .int .u8 m2, .int .u8 m3] 22)) w1.heap.size [m0, m1, m2, m3]) := heap_alloc_new w1 _
  have BB := Lib.hid ((below_both BB.out b1).alloc (below_both BB.out b1).size (.cells #[.int .u8 m0, .int .u8 m1, .int .u8 m2, .int .u8 m3] 22))
  clear b1
  have c0 := AA.out.cell 0 (by simp)
  have c1 := AA.out.cell 1 (by simp)
  have c2 := AA.out.cell 2 (by simp)
  have c3 := AA.out.cell 3 (by simp)
  simp at c0 c1 c2 c3
  go_wp2_with fail
  refine (C2.out _).mono ?_
  rintro e w2 ⟨rfl, b2⟩
  clear c0 c1 c2 c3
  have AA := Lib.hid ((AA.out.below b2).alloc (.cells #[.int .u8 m0, .int .u8 m1, .int .u8 m2, .int .u8 m3] 22))
  have MM := Lib.hid ((MM.out.below b2).alloc (.cells #[.int .u8 m0, .int .u8 m1, .int .u8 m2, .int .u8 m3] 22))
  have NN : Hid (ArrAt (w2.alloc (.cells #[.int .u8 m0, .int .u8 m1, .int .u8 m2, .int .u8 m3] 22)) w2.heap.size [m0, m1, m2, m3]) := heap_alloc_new w2 _
  have BB := Lib.hid ((below_both BB.out b2).alloc (below_both BB.out b2).size (.cells #[.int .u8 m0, .int .u8 m1, .int .u8 m2, .int .u8 m3] 22))
  clear b2
  have h0 := Tri.of AA.out MM.out NN.out
  clear AA MM NN
  go_wp2_with fail
  generalize w2.alloc (.cells #[.int .u8 m0, .int .u8 m1, .int .u8 m2, .int .u8 m3] 22) = V at *
  have BB := Lib.hid BB.out.drew
  have hT : Hid (Tri V.drew w.heap.size w1.heap.size w2.heap.size a b c d m0 m1 m2 m3) := h0
  generalize w1.heap.size = g1 at *
  generalize w2.heap.size = g2 at *
  go_region_held3 (fun w' => w'.cell? ⟨w.heap.size, 0, none⟩ = some (.int .u8 a) ∧ w'.cell? ⟨w.heap.size, 1, none⟩ = some (.int .u8 b) ∧ w'.cell? ⟨w.heap.size, 2, none⟩ = some (.int .u8 c) ∧ w'.cell? ⟨w.heap.size, 3, none⟩ = some (.int .u8 d) ∧ w'.cell? ⟨g1, 0, none⟩ = some (.int .u8 m0) ∧ w'.cell? ⟨g1, 1, none⟩ = some (.int .u8 m1) ∧ w'.cell? ⟨g1, 2, none⟩ = some (.int .u8 m2) ∧ w'.cell? ⟨g1, 3, none⟩ = some (.int .u8 m3) ∧ w'.cell? ⟨g2, 0, none⟩ = some (.int .u8 m0) ∧ w'.cell? ⟨g2, 1, none⟩ = some (.int .u8 m1) ∧ w'.cell? ⟨g2, 2, none⟩ = some (.int .u8 m2) ∧ w'.cell? ⟨g2, 3, none⟩ = some (.int .u8 m3))
    (first | exact h0 | exact hTwo | go_keep)
    (first
      | (go_at_call 15; ((refine (live5 _ (HT.out.below BB.out)).mono ?_); rintro e w' ⟨rfl, hb'⟩; have BB := Lib.hid (below_both BB.out hb'); have hTwo : Tri w' w.heap.size g1 g2 a b c d m0 m1 m2 m3 := hT.out.below hb'; have hT := Lib.hid hTwo))
      | (go_at_call 16; ((refine (C3.out _ (HT.out.below BB.out)).mono ?_); rintro e w' ⟨rfl, hb'⟩; have BB := Lib.hid (below_both BB.out hb'); have hTwo : Tri w' w.heap.size g1 g2 a b c d m0 m1 m2 m3 := hT.out.below hb'; have hT := Lib.hid hTwo))
      | (go_at_call 17; ((refine (C4.out _).mono ?_); rintro e w' ⟨rfl, hb'⟩; have BB := Lib.hid (below_both BB.out hb'); have hTwo : Tri w' w.heap.size g1 g2 a b c d m0 m1 m2 m3 := hT.out.below hb'; have hT := Lib.hid hTwo))
      | (go_at_call 18; ((refine (C5.out _).mono ?_); rintro e w' ⟨rfl, hb'⟩; have BB := Lib.hid (below_both BB.out hb'); have hTwo : Tri w' w.heap.size g1 g2 a b c d m0 m1 m2 m3 := hT.out.below hb'; have hT := Lib.hid hTwo))
      | (go_at_call 19; ((refine (C6.out _).mono ?_); rintro e w' ⟨rfl, hb'⟩; have BB := Lib.hid (below_both BB.out hb'); have hTwo : Tri w' w.heap.size g1 g2 a b c d m0 m1 m2 m3 := hT.out.below hb'; have hT := Lib.hid hTwo))
      | (go_at_call 20; ((refine (C7.out _).mono ?_); rintro e w' ⟨rfl, hb'⟩; have BB := Lib.hid (below_both BB.out hb'); have hTwo : Tri w' w.heap.size g1 g2 a b c d m0 m1 m2 m3 := hT.out.below hb'; have hT := Lib.hid hTwo))
      | (go_at_call 21; ((refine (C8.out _).mono ?_); rintro e w' ⟨rfl, hb'⟩; have BB := Lib.hid (below_both BB.out hb'); have hTwo : Tri w' w.heap.size g1 g2 a b c d m0 m1 m2 m3 := hT.out.below hb'; have hT := Lib.hid hTwo))
      | (go_at_call 22; ((refine (C9.out _).mono ?_); rintro e w' ⟨rfl, hb'⟩; have BB := Lib.hid (below_both BB.out hb'); have hTwo : Tri w' w.heap.size g1 g2 a b c d m0 m1 m2 m3 := hT.out.below hb'; have hT := Lib.hid hTwo))
      | (go_at_call 23; ((refine (C10.out _).mono ?_); rintro e w' ⟨rfl, hb'⟩; have BB := Lib.hid (below_both BB.out hb'); have hTwo : Tri w' w.heap.size g1 g2 a b c d m0 m1 m2 m3 := hT.out.below hb'; have hT := Lib.hid hTwo))
      | fail)
  all_goals
    go_wp2_with fail
    go_ret
    exact ⟨by simp, BB.out⟩
end Go.Proofs.YtdeecobpglfgaaaDoor
