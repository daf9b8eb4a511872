/-
  The walk of the statement WideTexts.
-/
import Derived.Test.YtgpdghibkkgonaaLive2
import Derived.Test.YtgpdghibkkgonaaRtext
namespace Go.Proofs.Ytgpdghibkkgonaa
open Go.RowKit
set_option linter.unusedVariables false
attribute [local go_sem ↓] Go.wp_at_zero Go.wp_at_succ

theorem both_cap (a b m : Nat) (ha : a ≤ 18446744073709551615) (hb : b ≤ 18446744073709551615) (hm : m ≤ 18446744073709551615) : ∃ r : Nat,
    (∀ w, Calls Try.prog 18 #[.agg #[.int .u64 a, .int .u64 b], .int .u64 m] w fun e w' => e = .returned (.int .u64 r) ∧ Below w.heap.size w w') ∧
    (∀ w, Calls Try.prog 19 #[.agg #[.int .u64 a, .int .u64 b], .int .u64 m] w fun e w' => e = .returned (.int .u64 r) ∧ Below w.heap.size w w') := by
  by_cases h : wnum a b < m
  · exact ⟨b, fun w => cap_less a b m w ha hb hm h, fun w => rcap_less a b m w ha hb hm h⟩
  · exact ⟨m, fun w => cap_most a b m w ha hb hm h, fun w => rcap_most a b m w ha hb hm h⟩
theorem both_text (a b : Nat) (ha : a ≤ 18446744073709551615) (hb : b ≤ 18446744073709551615) : ∃ s : ByteArray,
    (∀ w, Calls Try.prog 16 #[.agg #[.int .u64 a, .int .u64 b]] w fun e w' => e = .returned (.string s) ∧ Below w.heap.size w w') ∧
    (∀ w, Calls Try.prog 17 #[.agg #[.int .u64 a, .int .u64 b]] w fun e w' => e = .returned (.string s) ∧ Below w.heap.size w w') := by
  obtain ⟨K, hK, hle⟩ := has_digits (wnum a b) (wnum_lt ha hb)
  exact ⟨_, fun w => text_any a b _ K w rfl ha hb hK hle, fun w => rtext_any a b _ K w rfl ha hb hK hle⟩

set_option maxRecDepth 10000 in
set_option maxHeartbeats 1600000 in
theorem walk_WideTexts (a b n : Nat) (w : World) (ha : a ≤ 18446744073709551615) (hb : b ≤ 18446744073709551615) (hn : n ≤ 18446744073709551615) :
    Calls Try.prog 3 #[.agg #[.int .u64 a, .int .u64 b], .int .u64 n] w fun e w' => e = .returned (.bool true) ∧ Below w.heap.size w w' := by
  obtain ⟨s, k1, k2⟩ := both_text a b ha hb
  obtain ⟨r, k3, k4⟩ := both_cap a b n ha hb hn
  have C1 := Lib.hid k1
  have C2 := Lib.hid k2
  have C3 := Lib.hid k3
  have C4 := Lib.hid k4
  clear k1 k2 k3 k4
  have h0 := Two.new w (a : Int) (b : Int)
  have BB := Lib.hid ((Below.refl w.heap.size w).alloc (Nat.le_refl _) (.cells #[.int .u64 a, .int .u64 b] 24))
  go_enter Try.func3, Try.ntmps3
  go_wp2_with fail
  generalize w.alloc (.cells #[.int .u64 a, .int .u64 b] 24) = w5 at *
  go_region_held3 (fun w' => w'.cell? ⟨w.heap.size, 0, none⟩ = some (.int .u64 a) ∧ w'.cell? ⟨w.heap.size, 1, none⟩ = some (.int .u64 b))
    (first | exact h0 | exact hTwo | go_keep)
    (first
      | (go_at_call 15; (refine (live2 _).mono ?_); rintro e w' ⟨rfl, hb'⟩; have BB := Lib.hid (below_both BB.out.drew hb')
         have hTwo : Two w' w.heap.size a b := Two.below (w := w5.drew) h0 hb'
         have hT := Lib.hid hTwo)
      | (go_at_call 16; (refine (C1.out _).mono ?_); rintro e w' ⟨rfl, hb'⟩; have BB := Lib.hid (below_both BB.out hb')
         have hTwo : Two w' w.heap.size a b := hT.out.below hb'
         have hT := Lib.hid hTwo)
      | (go_at_call 17; (refine (C2.out _).mono ?_); rintro e w' ⟨rfl, hb'⟩; have BB := Lib.hid (below_both BB.out hb')
         have hTwo : Two w' w.heap.size a b := hT.out.below hb'
         have hT := Lib.hid hTwo)
      | (go_at_call 18; (refine (C3.out _).mono ?_); rintro e w' ⟨rfl, hb'⟩; have BB := Lib.hid (below_both BB.out hb')
         have hTwo : Two w' w.heap.size a b := hT.out.below hb'
         have hT := Lib.hid hTwo)
      | (go_at_call 19; (refine (C4.out _).mono ?_); rintro e w' ⟨rfl, hb'⟩; have BB := Lib.hid (below_both BB.out hb')
         have hTwo : Two w' w.heap.size a b := hT.out.below hb'
         have hT := Lib.hid hTwo)
      | fail)
  all_goals
    go_wp2_with fail
    go_ret
    exact ⟨by simp, BB.out⟩
end Go.Proofs.Ytgpdghibkkgonaa
