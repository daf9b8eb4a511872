/-
  The walk of the statement OnesumFills.
-/
import Derived.Test.YtgpdghibkkgonaaWSums
namespace Go.Proofs.Ytgpdghibkkgonaa
open Go.RowKit
set_option linter.unusedVariables false

theorem fill_agree (A : Option Addr) (n cap : Nat) (a : Int) (bs : List Nat) (hby : ∀ x ∈ bs, x < 256) (hlen : bs.length = n) (hcap : n ≤ cap) (hreach : n ≤ 140737488355328) (ha : a ≤ 9223372036854775807) :
    ∃ (l : List Nat) (y : Int), l.length ≤ 140737488355328 ∧ (∀ w, Row w A n bs → Calls Try.prog 39 #[.slice A n cap, .int .i64 a] w (TwoTo w l y)) ∧
      (∀ w, Row w A n bs → Calls Try.prog 40 #[.slice A n cap, .int .i64 a] w (TwoTo w l y)) ∧ (y = 0 → orest (wsum 0 l) = 65535) := by
  by_cases h : a < 0 ∨ a % 2 ≠ 0
  · exact ⟨[], 1, by simp, fun w _ => (ofill_range A n cap a w h).mono two_nil, fun w _ => (rfill_range A n cap a w h).mono two_nil, by decide⟩
  · obtain ⟨a, rfl⟩ := Int.eq_ofNat_of_zero_le (show 0 ≤ a by omega)
    have h2 : a % 2 = 0 := by omega
    by_cases hs : n < a + 2
    · exact ⟨[], 2, by simp, fun w _ => (ofill_short A n cap a w (by omega) (by omega) h2 hs).mono two_nil, fun w _ => (rfill_short A n cap a w (by omega) (by omega) h2 hs).mono two_nil, by decide⟩
    · exact ⟨filled bs a, 0, by rw [filled_length (by omega)]; omega, fun w hR => ofill_ok A n cap a bs w hcap hreach h2 (by omega) hR, fun w hR => rfill_ok A n cap a bs w hcap hreach h2 (by omega) hR,
        fun _ => filled_good h2 (by omega)⟩
theorem good_val (v : Value) (l : List Nat) (w : World) (hl : l.length ≤ 140737488355328) (h : ByteVal w v l) (hg : orest (wsum 0 l) = 65535) :
    Calls Try.prog 30 #[v] w fun e w' => e = .returned (.bool true) ∧ Below w.heap.size w w' := by
  obtain ⟨A, c, rfl, _, hA⟩ := h
  exact ogood_any A l.length c l true w hl hA (decide_eq_true hg)

set_option maxRecDepth 10000 in
set_option maxHeartbeats 1600000 in
theorem walk_OnesumFills (a0 : Option Addr) (len0 cap0 : Nat) (bs0 : List Nat) (n : Int) (w : World) (R0 : Row w a0 len0 bs0) (hl0 : len0 ≤ cap0) (hc0 : cap0 ≤ 140737488351232)
    (lo1 : -9223372036854775808 ≤ n) (hi1 : n ≤ 9223372036854775807) :
    Calls Try.prog 7 #[.slice a0 len0 cap0, .int .i64 n] w fun e w' => e = .returned (.bool true) ∧ Below w.heap.size w w' := by
  obtain ⟨l, y, hl, g1, g2, hg⟩ := fill_agree a0 len0 cap0 n bs0 R0.2.1 R0.1 hl0 (by omega) hi1
  have G1 := Lib.hid g1
  have G2 := Lib.hid g2
  have HL := Lib.hid hl
  have HL2 : Hid (l.length ≤ 9223372036854775807) := Nat.le_trans hl (by decide)
  have HG := Lib.hid hg
  have R := Lib.hid R0
  have hV : ByteVal w (.slice a0 len0 cap0) bs0 := ⟨a0, cap0, by rw [R0.1], by rw [R0.1]; exact hl0, by rw [R0.1]; exact R0⟩
  have HV := Lib.hid hV
  have HLB := Lib.hid (show bs0.length ≤ 9223372036854775807 by rw [R0.1]; omega)
  clear g1 g2 hl R0 hV hg
  by_cases hy : y = 0
  · subst hy
    have HGG := Lib.hid (HG.out rfl)
    clear HG
    go_enter Try.func7, Try.ntmps7
    go_wp2_with fail
    refine (join_val _ len0 cap0 _ a0 bs0 _ (by omega) (R.out.alloc _) (new_cell _ _ _ _ rfl)).mono ?_
    rintro e w1 ⟨v0, rfl, r0, b0⟩
    have b0 := below_al b0
    have V0 := Lib.hid r0
    have B0 := Lib.hid b0
    clear r0 b0
    go_wp2_with fail
    refine (G1.out _ (R.out.below B0.out)).mono ?_
    rintro e w2 ⟨v1, rfl, r1, b1⟩
    have V0 := Lib.hid (V0.out.below b1)
    have V1 := Lib.hid r1
    have B1 := Lib.hid (below_both B0.out b1)
    clear r1 b1 B0
    go_wp2_with fail
    refine (G2.out _ (R.out.below B1.out)).mono ?_
    rintro e w3 ⟨v2, rfl, r2, b2⟩
    have V0 := Lib.hid (V0.out.below b2)
    have V1 := Lib.hid (V1.out.below b2)
    have V2 := Lib.hid r2
    have B2 := Lib.hid (below_both B1.out b2)
    clear r2 b2 B1
    go_wp2_with fail
    refine (live3 _).mono ?_
    rintro e w4 ⟨rfl, b3⟩
    have V0 := Lib.hid (V0.out.below b3)
    have V1 := Lib.hid (V1.out.below b3)
    have V2 := Lib.hid (V2.out.below b3)
    have B3 := Lib.hid (below_both B2.out b3)
    clear b3 B2
    go_wp2_with fail
    refine (same_vals _ _ l _ HL2.out V1.out V2.out).mono ?_
    rintro e w5 ⟨rfl, b4⟩
    have V0 := Lib.hid (V0.out.below b4)
    have V1 := Lib.hid (V1.out.below b4)
    have B4 := Lib.hid (below_both B3.out b4)
    clear b4 B3 V2
    go_wp2_with fail
    refine (good_val _ l _ HL.out V1.out HGG.out).mono ?_
    rintro e w5 ⟨rfl, b4⟩
    have V0 := Lib.hid (V0.out.below b4)
    have B4 := Lib.hid (below_both B4.out b4)
    clear b4 V1
    go_wp2_with fail
    refine (same_vals _ _ bs0 _ HLB.out (HV.out.below B4.out) V0.out).mono ?_
    rintro e w6 ⟨rfl, b5⟩
    have B5 := Lib.hid (below_both B4.out b5)
    clear b5 B4 V0
    go_wp2_with fail
    go_ret
    exact ⟨rfl, B5.out⟩
  · have q : (y != 0) = true := by simp; exact hy
    clear HG HL
    go_enter Try.func7, Try.ntmps7
    go_wp2_with fail
    refine (join_val _ len0 cap0 _ a0 bs0 _ (by omega) (R.out.alloc _) (new_cell _ _ _ _ rfl)).mono ?_
    rintro e w1 ⟨v0, rfl, r0, b0⟩
    have b0 := below_al b0
    have V0 := Lib.hid r0
    have B0 := Lib.hid b0
    clear r0 b0
    go_wp2_with fail
    refine (G1.out _ (R.out.below B0.out)).mono ?_
    rintro e w2 ⟨v1, rfl, r1, b1⟩
    have V0 := Lib.hid (V0.out.below b1)
    have V1 := Lib.hid r1
    have B1 := Lib.hid (below_both B0.out b1)
    clear r1 b1 B0
    go_wp2_with fail
    refine (G2.out _ (R.out.below B1.out)).mono ?_
    rintro e w3 ⟨v2, rfl, r2, b2⟩
    have V0 := Lib.hid (V0.out.below b2)
    have V1 := Lib.hid (V1.out.below b2)
    have V2 := Lib.hid r2
    have B2 := Lib.hid (below_both B1.out b2)
    clear r2 b2 B1
    go_wp2_with fail
    refine (live3 _).mono ?_
    rintro e w4 ⟨rfl, b3⟩
    have V0 := Lib.hid (V0.out.below b3)
    have V1 := Lib.hid (V1.out.below b3)
    have V2 := Lib.hid (V2.out.below b3)
    have B3 := Lib.hid (below_both B2.out b3)
    clear b3 B2
    go_wp2_with fail
    refine (same_vals _ _ l _ HL2.out V1.out V2.out).mono ?_
    rintro e w5 ⟨rfl, b4⟩
    have V0 := Lib.hid (V0.out.below b4)
    have B4 := Lib.hid (below_both B3.out b4)
    clear b4 B3 V2 V1
    go_wp2_with fail
    refine (same_vals _ _ bs0 _ HLB.out (HV.out.below B4.out) V0.out).mono ?_
    rintro e w6 ⟨rfl, b5⟩
    have B5 := Lib.hid (below_both B4.out b5)
    clear b5 B4 V0
    go_wp2_with fail
    go_ret
    exact ⟨rfl, B5.out⟩
end Go.Proofs.Ytgpdghibkkgonaa
