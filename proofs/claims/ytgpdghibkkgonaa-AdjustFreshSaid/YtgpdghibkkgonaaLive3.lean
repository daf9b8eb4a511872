/-
  The examples of layer 3 come out as they must, in whatever world: the contract of weighbridgelaw03.live.
-/
import Derived.Test.YtgpdghibkkgonaaOne3
namespace Go.Proofs.Ytgpdghibkkgonaa
open Go.RowKit
set_option linter.unusedVariables false

theorem laid_row (w : World) (bs : List Nat) (cs : Array Value) (n g : Nat) (hcs : cs = (bcells bs).toArray) (hb : ∀ x ∈ bs, x < 256) (hn : bs.length = n) (hg : w.heap.size = g) :
    Row (w.alloc (.cells cs 5)) (some ⟨g, 0, none⟩) n bs := by
  subst hcs hn hg
  exact (Own.new w bs).row hb
def L3 : List Nat := [69, 0, 0, 115, 0, 0, 64, 0, 64, 17, 0, 0, 192, 168, 0, 1, 192, 168, 0, 199]
def F3 : List Nat := [69, 0, 0, 115, 0, 0, 64, 0, 64, 17, 184, 97, 192, 168, 0, 1, 192, 168, 0, 199]
theorem filled_L3 : filled L3 10 = F3 := by decide
theorem l3_fill (A : Option Addr) (w : World) (h : Row w A 20 L3) : Calls Try.prog 39 #[.slice A 20 20, .int .i64 10] w fun e w' =>
    ∃ b o c, e = .returned (.tuple #[.slice (some ⟨b, o, none⟩) 20 c, .int .i64 0]) ∧ Row w' (some ⟨b, o, none⟩) 20 F3 ∧ Below w.heap.size w w' := by
  refine (ofill_ok A 20 20 10 L3 w (by decide) (by decide) (by decide) (by decide) h).mono ?_
  rintro e w' ⟨v, rfl, ⟨B, c, rfl, hc, hR⟩, hb⟩
  rw [filled_L3] at hR ⊢
  obtain ⟨b, o, rfl, _, _⟩ := hR.addr (by decide)
  exact ⟨b, o, c, rfl, hR, hb⟩
theorem l3_odd (A : Option Addr) (w : World) : Calls Try.prog 39 #[.slice A 20 20, .int .i64 9] w fun e w' => e = .returned (.tuple #[.slice none 0 0, .int .i64 1]) ∧ w = w' :=
  ofill_range A 20 20 9 w (by decide)
theorem l3_short (A : Option Addr) (w : World) : Calls Try.prog 39 #[.slice A 20 20, .int .i64 20] w fun e w' => e = .returned (.tuple #[.slice none 0 0, .int .i64 2]) ∧ w = w' :=
  ofill_short A 20 20 20 w (by decide) (by decide) (by decide) (by decide)
theorem l3_check (A : Option Addr) (w : World) (h : Row w A 20 L3) : Calls Try.prog 28 #[.slice A 20 20] w fun e w' => e = .returned (.int .u16 47201) ∧ Below w.heap.size w w' :=
  ocheck_any A 20 20 L3 w (by decide) h
theorem l3_good (A : Option Addr) (c : Nat) (w : World) (h : Row w A 20 F3) : Calls Try.prog 30 #[.slice A 20 c] w fun e w' => e = .returned (.bool true) ∧ Below w.heap.size w w' :=
  ogood_any A 20 c F3 true w (by decide) h (by decide : decide (orest (wsum 0 F3) = 65535) = true)
theorem l3_bad (A : Option Addr) (c : Nat) (w : World) (h : Row w A 20 L3) : Calls Try.prog 30 #[.slice A 20 c] w fun e w' => e = .returned (.bool false) ∧ Below w.heap.size w w' :=
  ogood_any A 20 c L3 false w (by decide) h (by decide : decide (orest (wsum 0 L3) = 65535) = false)
theorem l3_add (w : World) : Calls Try.prog 32 #[.int .u16 65535, .int .u16 1] w fun e w' => e = .returned (.int .u16 1) ∧ w = w' := oadd_any 65535 1 w (by decide) (by decide)
theorem l3_sum (A : Option Addr) (w : World) (h : Row w A 1 [1]) : Calls Try.prog 26 #[.slice A 1 1] w fun e w' => e = .returned (.int .u16 256) ∧ Below w.heap.size w w' := osum_any A 1 1 [1] w (by decide) h
theorem l3_swap (w : World) : Calls Try.prog 34 #[.int .u16 4660] w fun e w' => e = .returned (.int .u16 13330) ∧ w = w' := oswap_any 4660 w (by decide)
theorem l3_join (w : World) : Calls Try.prog 36 #[.int .u16 1, .int .i64 1, .int .u16 1] w fun e w' => e = .returned (.int .u16 257) ∧ w = w' := ojoin_any 1 1 1 w (by decide) (by decide) (by decide) (by decide)
theorem row_at {w : World} {b o n : Nat} {bs : List Nat} (h : Row w (some ⟨b, o, none⟩) n bs) (i x : Nat) (hi : i < n) (hx : bs.getD i 0 = x) : w.cell? ⟨b, o + i, none⟩ = some (.int .u8 (x : Nat)) := by
  obtain ⟨b', o', e, _, hc⟩ := h.addr (by omega)
  injection e with e
  injection e with e1 e2
  subst e1 e2
  rw [hc i hi, hx]

set_option maxHeartbeats 800000 in
theorem live3 (w : World) : Calls Try.prog 25 #[] w fun e w' => e = .returned (.bool true) ∧ Below w.heap.size w w' := by
  go_enter Try.func25, Try.ntmps25
  go_wp2_with fail
  have r0 := laid_row w L3 _ 20 w.heap.size rfl (by decide) rfl rfl
  have R0 := Lib.hid r0
  refine (l3_fill _ _ r0).mono ?_
  rintro e w1 ⟨b, o, c, rfl, r1, b1⟩
  have R0 := Lib.hid (R0.out.below b1)
  have R1 := Lib.hid r1
  have B1 := Lib.hid (below_al b1)
  clear r0 r1 b1
  go_wp2_with fail
  refine (l3_odd _ _).mono ?_
  rintro e w2 ⟨rfl, rfl⟩
  go_wp2_with fail
  refine (l3_short _ _).mono ?_
  rintro e w3 ⟨rfl, rfl⟩
  go_wp2_with fail
  refine (l3_check _ _ R0.out).mono ?_
  rintro e w4 ⟨rfl, b4⟩
  have R0 := Lib.hid (R0.out.below b4)
  have R1 := Lib.hid (R1.out.below b4)
  have B4 := Lib.hid (below_both B1.out b4)
  have c10 := row_at R1.out 10 184 (by decide) rfl
  have c11 := row_at R1.out 11 97 (by decide) rfl
  simp at c10 c11
  clear b4 B1
  go_wp2_with fail
  refine (l3_good _ _ _ R1.out).mono ?_
  rintro e w5 ⟨rfl, b5⟩
  have R0 := Lib.hid (R0.out.below b5)
  have B5 := Lib.hid (below_both B4.out b5)
  clear b5 B4 R1 c10 c11
  go_wp2_with fail
  refine (l3_bad _ _ _ R0.out).mono ?_
  rintro e w6 ⟨rfl, b6⟩
  have B6 := Lib.hid (below_both B5.out b6)
  clear b6 B5 R0
  go_wp2_with fail
  refine (l3_add _).mono ?_
  rintro e w7 ⟨rfl, rfl⟩
  go_wp2_with fail
  refine (l3_sum _ _ (laid_row _ [1] _ _ _ rfl (by decide) rfl rfl)).mono ?_
  rintro e w8 ⟨rfl, b8⟩
  have B8 := Lib.hid (below_both B6.out (below_al b8))
  clear b8 B6
  go_wp2_with fail
  refine (l3_swap _).mono ?_
  rintro e w9 ⟨rfl, rfl⟩
  go_wp2_with fail
  refine (l3_join _).mono ?_
  rintro e w10 ⟨rfl, rfl⟩
  go_wp2_with fail
  go_ret
  exact ⟨rfl, B8.out⟩
end Go.Proofs.Ytgpdghibkkgonaa
