/-
  The walk of the statement AdjustAts.
-/
import Derived.Test.YtgpdghibkkgonaaLive4
namespace Go.Proofs.Ytgpdghibkkgonaa
open Go.RowKit
set_option linter.unusedVariables false

/-- Two numbers lie in block g. -/
def Spot (W : World) (g : Nat) (a b : Int) : Prop := W.cell? ⟨g, 0, none⟩ = some (.int .i64 a) ∧ W.cell? ⟨g, 1, none⟩ = some (.int .i64 b)
theorem Spot.new (w : World) (a b : Int) : Spot (w.alloc (.cells #[.int .i64 a, .int .i64 b] 60)) w.heap.size a b :=
  ⟨cell_of_row _ w.heap.size 0 _ _ _ (heap_alloc_new w _), cell_of_row _ w.heap.size 1 _ _ _ (heap_alloc_new w _)⟩
theorem Spot.below {w w' : World} {g : Nat} {a b : Int} (h : Spot w g a b) (hb : Below w.heap.size w w') : Spot w' g a b := ⟨(hb.cell (cell_lt h.1)).trans h.1, (hb.cell (cell_lt h.2)).trans h.2⟩

set_option maxRecDepth 10000 in
set_option maxHeartbeats 1600000 in
theorem walk_AdjustAts (a0 : Option Addr) (len0 cap0 : Nat) (bs0 : List Nat) (zs1 : List Int) (v : Nat) (w : World) (R0 : Row w a0 len0 bs0) (hl0 : len0 ≤ cap0) (hc0 : cap0 ≤ 140737488351232)
    (hn1 : zs1.length = 2) (hz1 : ∀ z ∈ zs1, (Lit.int .i64 z).wf = true) (hv : v ≤ 65535) :
    Calls Try.prog 10 #[.slice a0 len0 cap0, .agg (zs1.map (Value.int .i64)).toArray, .int .u16 v] w fun e w' => e = .returned (.bool true) ∧ Below w.heap.size w w' := by
  obtain ⟨f, a, rfl⟩ := two_ints hn1
  have hf := wf_i64 (hz1 f (by simp))
  have ha := wf_i64 (hz1 a (by simp))
  obtain ⟨l, y, hl, g1, g2⟩ := at_agree a0 len0 cap0 f a v bs0 R0.1 hl0 (by omega) hf.2 ha.2 hv
  have G1 := Lib.hid g1
  have G2 := Lib.hid g2
  have HL2 : Hid (l.length ≤ 9223372036854775807) := Nat.le_trans hl (by decide)
  have R := Lib.hid R0
  have hV : ByteVal w (.slice a0 len0 cap0) bs0 := ⟨a0, cap0, by rw [R0.1], by rw [R0.1]; exact hl0, by rw [R0.1]; exact R0⟩
  have HV := Lib.hid hV
  have HLB := Lib.hid (show bs0.length ≤ 9223372036854775807 by rw [R0.1]; omega)
  clear g1 g2 hz1 ha hf hn1 hl R0 hV
  have S0 := Lib.hid (Spot.new w f a)
  have B0 := Lib.hid ((Below.refl w.heap.size w).alloc (Nat.le_refl _) (.cells #[.int .i64 f, .int .i64 a] 60))
  show Calls Try.prog 10 #[.slice a0 len0 cap0, .agg #[.int .i64 f, .int .i64 a], .int .u16 v] w fun e w' => e = .returned (.bool true) ∧ Below w.heap.size w w'
  go_enter Try.func10, Try.ntmps10
  go_wp2_with fail
  refine (join_val _ len0 cap0 _ a0 bs0 _ (by omega) ((R.out.alloc _).alloc _) (new_cell _ _ _ _ (by simp))).mono ?_
  rintro e w1 ⟨v0, rfl, r0, b0⟩
  have b0 := below_al b0
  have S0 := Lib.hid (S0.out.below b0)
  have V0 := Lib.hid r0
  have B0 := Lib.hid (below_both B0.out b0)
  clear r0 b0
  obtain ⟨c0, c1⟩ := S0.out
  go_wp2_with fail
  refine (G1.out _ (R.out.below B0.out)).mono ?_
  rintro e w2 ⟨v1, rfl, r1, b1⟩
  have S0 := Lib.hid (S0.out.below b1)
  have V0 := Lib.hid (V0.out.below b1)
  have V1 := Lib.hid r1
  have B1 := Lib.hid (below_both B0.out b1)
  clear r1 b1 B0 c0 c1
  obtain ⟨c0, c1⟩ := S0.out
  go_wp2_with fail
  refine (G2.out _ (R.out.below B1.out)).mono ?_
  rintro e w3 ⟨v2, rfl, r2, b2⟩
  have V0 := Lib.hid (V0.out.below b2)
  have V1 := Lib.hid (V1.out.below b2)
  have V2 := Lib.hid r2
  have B2 := Lib.hid (below_both B1.out b2)
  clear r2 b2 B1 c0 c1 S0
  go_wp2_with fail
  refine (live4 _).mono ?_
  rintro e w4 ⟨rfl, b3⟩
  have V0 := Lib.hid (V0.out.below b3)
  have V1 := Lib.hid (V1.out.below b3)
  have V2 := Lib.hid (V2.out.below b3)
  have B3 := Lib.hid (below_both B2.out b3)
  clear b3 B2
  go_wp2_with fail
  refine (same_vals _ _ l _ HL2.out V1.out V2.out).mono ?_
  rintro e w5 ⟨rfl, b4⟩
  have V0 := Lib.hid (V0.out.below b4)
  have B4 := Lib.hid (below_both B3.out b4)
  clear b4 B3 V1 V2
  go_wp2_with fail
  refine (same_vals _ _ bs0 _ HLB.out (HV.out.below B4.out) V0.out).mono ?_
  rintro e w6 ⟨rfl, b5⟩
  have B5 := Lib.hid (below_both B4.out b5)
  clear b5 B4 V0
  go_wp2_with fail
  go_ret
  exact ⟨rfl, B5.out⟩
end Go.Proofs.Ytgpdghibkkgonaa
