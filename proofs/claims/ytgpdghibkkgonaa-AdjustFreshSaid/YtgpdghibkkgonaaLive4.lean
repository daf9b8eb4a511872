/-
  The examples of layer 4 come out as they must, in whatever world: the contract of weighbridgelaw04.live.
-/
import Derived.Test.YtgpdghibkkgonaaLive3
import Derived.Test.YtgpdghibkkgonaaAdj5
namespace Go.Proofs.Ytgpdghibkkgonaa
open Go.RowKit
set_option linter.unusedVariables false

def G4 : List Nat := [69, 184, 0, 115, 0, 0, 64, 0, 64, 17, 183, 169, 192, 168, 0, 1, 192, 168, 0, 199]
theorem adj_F3 : adjAt F3 10 0 17848 = G4 := by decide
theorem l4_at (A : Option Addr) (w : World) (h : Row w A 20 F3) : Calls Try.prog 49 #[.slice A 20 20, .int .i64 10, .int .i64 0, .int .u16 17848] w fun e w' =>
    ∃ b o c, e = .returned (.tuple #[.slice (some ⟨b, o, none⟩) 20 c, .int .i64 0]) ∧ Row w' (some ⟨b, o, none⟩) 20 G4 ∧ Below w.heap.size w w' := by
  refine (at_ok A 20 20 10 0 17848 F3 w (by decide) (by decide) (by decide) (by decide) (by decide) (by decide) (by decide) (by decide) h).mono ?_
  rintro e w' ⟨v, rfl, ⟨B, c, rfl, hc, hR⟩, hb⟩
  rw [adj_F3] at hR ⊢
  obtain ⟨b, o, rfl, _, _⟩ := hR.addr (by decide)
  exact ⟨b, o, c, rfl, hR, hb⟩
theorem l4_same (A : Option Addr) (w : World) : Calls Try.prog 49 #[.slice A 20 20, .int .i64 10, .int .i64 10, .int .u16 1] w fun e w' => e = .returned (.tuple #[.slice none 0 0, .int .i64 1]) ∧ w = w' :=
  at_range A 20 20 10 10 1 w (by decide)
theorem l4_short (A : Option Addr) (w : World) (h : Row w A 20 F3) : Calls Try.prog 49 #[.slice A 20 20, .int .i64 10, .int .i64 20, .int .u16 1] w fun e w' => e = .returned (.tuple #[.slice none 0 0, .int .i64 2]) ∧ Below w.heap.size w w' :=
  at_short A 20 20 10 20 1 F3 w (by decide) (by decide) (by decide) (by decide) (by decide) (by decide) (by decide) (by decide) h
theorem l4_words (A : Option Addr) (w : World) : Calls Try.prog 42 #[.int .u16 1, .slice A 1 1, .slice none 0 0] w fun e w' => e = .returned (.tuple #[.int .u16 0, .int .i64 2]) ∧ w = w' :=
  words_short A none 1 0 1 0 1 w (by decide) (by decide) (by decide)
theorem l4_word (w : World) : Calls Try.prog 46 #[.int .u16 56623, .int .u16 21845, .int .u16 12933] w fun e w' => e = .returned (.int .u16 0) ∧ Below w.heap.size w w' :=
  word_any 56623 21845 12933 w (by decide) (by decide) (by decide)
theorem l4_clean (w : World) : Calls Try.prog 44 #[.int .u16 65535] w fun e w' => e = .returned (.int .u16 0) ∧ w = w' := clean_any 65535 w (by decide)
theorem l4_clean7 (w : World) : Calls Try.prog 44 #[.int .u16 7] w fun e w' => e = .returned (.int .u16 7) ∧ w = w' := clean_any 7 w (by decide)
theorem l4_good (A : Option Addr) (c : Nat) (w : World) (h : Row w A 20 G4) : Calls Try.prog 30 #[.slice A 20 c] w fun e w' => e = .returned (.bool true) ∧ Below w.heap.size w w' :=
  ogood_any A 20 c G4 true w (by decide) h (by decide : decide (orest (wsum 0 G4) = 65535) = true)

set_option maxHeartbeats 800000 in
theorem live4 (w : World) : Calls Try.prog 48 #[] w fun e w' => e = .returned (.bool true) ∧ Below w.heap.size w w' := by
  go_enter Try.func48, Try.ntmps48
  go_wp2_with fail
  have r0 := laid_row w F3 _ 20 w.heap.size rfl (by decide) rfl rfl
  have R0 := Lib.hid r0
  refine (l4_at _ _ r0).mono ?_
  rintro e w1 ⟨b, o, c, rfl, r1, b1⟩
  have R0 := Lib.hid (R0.out.below b1)
  have R1 := Lib.hid r1
  have B1 := Lib.hid (below_al b1)
  clear r0 r1 b1
  go_wp2_with fail
  refine (l4_same _ _).mono ?_
  rintro e w2 ⟨rfl, rfl⟩
  go_wp2_with fail
  refine (l4_short _ _ R0.out).mono ?_
  rintro e w3 ⟨rfl, b3⟩
  have R1 := Lib.hid (R1.out.below b3)
  have B3 := Lib.hid (below_both B1.out b3)
  clear b3 B1 R0
  go_wp2_with fail
  refine (l4_words _ _).mono ?_
  rintro e w4 ⟨rfl, rfl⟩
  have R1 := Lib.hid (R1.out.alloc (.cells #[.int .u16 1] 37))
  have B4 := Lib.hid (B3.out.alloc B3.out.size (.cells #[.int .u16 1] 37))
  clear B3
  go_wp2_with fail
  refine (l4_word _).mono ?_
  rintro e w5 ⟨rfl, b5⟩
  have R1 := Lib.hid (R1.out.below b5)
  have B5 := Lib.hid (below_both B4.out b5)
  clear b5 B4
  go_wp2_with fail
  refine (l4_clean _).mono ?_
  rintro e w6 ⟨rfl, rfl⟩
  go_wp2_with fail
  refine (l4_clean7 _).mono ?_
  rintro e w6 ⟨rfl, rfl⟩
  go_wp2_with fail
  refine (l4_good _ _ _ R1.out).mono ?_
  rintro e w7 ⟨rfl, b7⟩
  have R1 := Lib.hid (R1.out.below b7)
  have B7 := Lib.hid (below_both B5.out b7)
  have c1 := row_at R1.out 1 184 (by decide) rfl
  simp at c1
  clear b7 B5
  go_wp2_with fail
  go_ret
  exact ⟨rfl, B7.out⟩
end Go.Proofs.Ytgpdghibkkgonaa
