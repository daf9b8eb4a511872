/-
  The examples of layer 13 come out as they must: the contract of weighbridgelaw13.live; the walk of PortsReads.
-/
import Derived.Test.YtlopmkmcjcijcaaPo4
namespace Go.Proofs.Ytlopmkmcjcijcaa
open Go.RowKit
set_option linter.unusedVariables false

def PB10 : List Nat := [0, 53, 4, 1, 0, 10, 0, 0, 1, 2]
theorem pb_head : poHead 17 53 1025 2 ++ [1, 2] = PB10 := by decide
theorem pb_r1 : poRead 17 10 PB10 false = (53, 1025, 0) := by decide
theorem pb_r2 : poRead 17 9 (PB10.take 9) false = (0, 0, 16) := by decide
theorem pb_r3 : poRead 17 9 (PB10.take 9) true = (53, 1025, 0) := by decide
theorem pb_r4 : poRead 6 10 PB10 false = (0, 0, 15) := by decide
theorem pb_r5 : poRead 1 0 [] false = (0, 0, 0) := by decide
theorem poread_below {p : Int} {A : Option Addr} {n c : Nat} {bs : List Nat} {first : Bool} {w : World} {r : Nat × Nat × Nat} (hr : poRead p n bs first = r) (hn2 : n ≤ 140737488355328) (hc : n ≤ c) (hR : Row w A n bs) :
    Calls Try.prog 40 #[.int .i64 p, .slice A n c, .bool first] w fun e w' => e = .returned (.tuple #[.int .i64 (r.1 : Nat), .int .i64 (r.2.1 : Nat), .int .i64 (r.2.2 : Nat)]) ∧ Below w.heap.size w w' := by
  have h := poread_any p A n c bs first w hn2 hc hR
  rw [hr] at h
  refine h.mono ?_
  rintro e w' ⟨rfl, q, rfl⟩
  exact ⟨rfl, below_drewN' (Below.refl _ _) q⟩
theorem l13_write (g : Nat) (w : World) (hR : Row w (some ⟨g, 0, none⟩) 2 [1, 2]) : Calls Try.prog 45 #[.int .i64 17, .int .i64 53, .int .i64 1025, .slice (some ⟨g, 0, none⟩) 2 2] w fun e w' => ∃ g c, e = .returned (.tuple #[.slice (some ⟨g, 0, none⟩) 10 c, .int .i64 0]) ∧ 10 ≤ c ∧ Row w' (some ⟨g, 0, none⟩) 10 PB10 ∧ Below w.heap.size w w' := by
  refine (powrite_17 53 1025 (some ⟨g, 0, none⟩) 2 2 [1, 2] w (by decide) (by decide) (by decide) (by decide) hR).mono ?_
  rintro e w' ⟨v, rfl, ho, hb⟩
  rw [pb_head] at ho
  obtain ⟨g2, c, rfl, _, hc, _⟩ := ho.block (by decide)
  obtain ⟨A, c2, e2, _, _, hr⟩ := ho.out (by decide)
  cases e2
  exact ⟨g2, c, rfl, hc, hr, hb⟩
set_option maxRecDepth 10000 in
set_option maxHeartbeats 3200000 in
theorem live13 (w : World) : Calls Try.prog 42 #[] w fun e w' => e = .returned (.bool true) ∧ Below w.heap.size w w' := by
  go_enter Try.func42, Try.ntmps42
  go_wp2_with fail
  refine (l13_write w.heap.size _ (by
    have h := (Own.new w [1, 2]).row (by decide)
    exact h)).mono ?_
  rintro e w1 ⟨g, c, rfl, hc, hR, b1⟩
  have B1 := Lib.hid (below_al b1)
  have HP : Hid (∀ W, Below w1.heap.size w1 W → Row W (some ⟨g, 0, none⟩) 9 (PB10.take 9)) := fun W h => by
    have hp := (hR.below h).part 0 9 (by decide)
    rw [List.drop_zero, Nat.add_zero] at hp
    exact hp
  have HR : Hid (∀ W, Below w1.heap.size w1 W → Row W (some ⟨g, 0, none⟩) 10 PB10) := fun W h => hR.below h
  have HC := Lib.hid hc
  have c9 : (9 : Int) ≤ (c : Int) := by omega
  have C1 : Hid (∀ W, Below w1.heap.size w1 W → Calls Try.prog 40 #[.int .i64 17, .slice (some ⟨g, 0, none⟩) 10 c, .bool false] W fun e w' => e = .returned (.tuple #[.int .i64 53, .int .i64 1025, .int .i64 0]) ∧ Below W.heap.size W w') := fun W h => poread_below pb_r1 (by decide) HC.out (HR.out W h)
  have C2 : Hid (∀ W, Below w1.heap.size w1 W → Calls Try.prog 40 #[.int .i64 17, .slice (some ⟨g, 0, none⟩) 9 c, .bool false] W fun e w' => e = .returned (.tuple #[.int .i64 0, .int .i64 0, .int .i64 16]) ∧ Below W.heap.size W w') := fun W h => poread_below pb_r2 (by decide) (by have := HC.out; omega) (HP.out W h)
  have C3 : Hid (∀ W, Below w1.heap.size w1 W → Calls Try.prog 40 #[.int .i64 17, .slice (some ⟨g, 0, none⟩) 9 c, .bool true] W fun e w' => e = .returned (.tuple #[.int .i64 53, .int .i64 1025, .int .i64 0]) ∧ Below W.heap.size W w') := fun W h => poread_below pb_r3 (by decide) (by have := HC.out; omega) (HP.out W h)
  have C4 : Hid (∀ W, Below w1.heap.size w1 W → Calls Try.prog 40 #[.int .i64 6, .slice (some ⟨g, 0, none⟩) 10 c, .bool false] W fun e w' => e = .returned (.tuple #[.int .i64 0, .int .i64 0, .int .i64 15]) ∧ Below W.heap.size W w') := fun W h => poread_below pb_r4 (by decide) HC.out (HR.out W h)
  have C5 : Hid (∀ W, Calls Try.prog 40 #[.int .i64 1, .slice none 0 0, .bool false] W fun e w' => e = .returned (.tuple #[.int .i64 0, .int .i64 0, .int .i64 0]) ∧ Below W.heap.size W w') := fun W => poread_below pb_r5 (by decide) (by decide) (Row.nil W none)
  have C6 : Hid (∀ W, Calls Try.prog 45 #[.int .i64 1, .int .i64 0, .int .i64 0, .slice none 0 0] W fun e w' => e = .returned (.tuple #[.slice none 0 0, .int .i64 10]) ∧ Below W.heap.size W w') := fun W => powrite_bad 1 0 0 none 0 0 W (by decide) (by decide)
  have C7 : Hid (∀ W, Calls Try.prog 45 #[.int .i64 6, .int .i64 65536, .int .i64 0, .slice none 0 0] W fun e w' => e = .returned (.tuple #[.slice none 0 0, .int .i64 1]) ∧ Below W.heap.size W w') := fun W => powrite_bad 6 65536 0 none 0 0 W (by decide) (by decide)
  have C8 : Hid (∀ W, Calls Try.prog 43 #[.int .i64 132] W fun e w' => e = .returned (.int .i64 12) ∧ W = w') := fun W => poleast_any 132 W
  clear hc hR b1 HP HR
  go_wp2_with fail
  refine (C1.out _ (Below.refl _ _)).mono ?_
  rintro e w2 ⟨rfl, b2⟩
  have B2 := Lib.hid b2
  clear b2
  go_wp2_with fail
  refine (C2.out _ B2.out).mono ?_
  rintro e w3 ⟨rfl, b3⟩
  have B3 := Lib.hid (below_both B2.out b3)
  clear b3
  go_wp2_with fail
  refine (C3.out _ B3.out).mono ?_
  rintro e w4 ⟨rfl, b4⟩
  have B4 := Lib.hid (below_both B3.out b4)
  clear b4
  go_wp2_with fail
  refine (C4.out _ B4.out).mono ?_
  rintro e w5 ⟨rfl, b5⟩
  have B5 := Lib.hid (below_both B4.out b5)
  clear b5
  go_wp2_with fail
  refine (C5.out _).mono ?_
  rintro e w6 ⟨rfl, b6⟩
  have B6 := Lib.hid (below_both B5.out b6)
  clear b6
  go_wp2_with fail
  refine (C6.out _).mono ?_
  rintro e w7 ⟨rfl, b7⟩
  have B7 := Lib.hid (below_both B6.out b7)
  clear b7
  go_wp2_with fail
  refine (C7.out _).mono ?_
  rintro e w8 ⟨rfl, b8⟩
  have B8 := Lib.hid (below_both B7.out b8)
  clear b8
  go_wp2_with fail
  refine (C8.out _).mono ?_
  rintro e w' ⟨rfl, rfl⟩
  go_wp2_with fail
  go_ret
  exact ⟨rfl, below_both B1.out B8.out⟩
theorem walk_PortsReads (n0 : Int) (a1 : Option Addr) (len1 cap1 : Nat) (bs1 : List Nat) (first2 : Bool) (w : World) (lo0 : -9223372036854775808 ≤ n0) (hi0 : n0 ≤ 9223372036854775807) (R1 : Row w a1 len1 bs1) (hl1 : len1 ≤ cap1) (hc1 : cap1 ≤ 140737488351232) :
    Calls Try.prog 10 #[.int .i64 n0, .slice a1 len1 cap1, .bool first2] w fun e w' => e = .returned (.bool true) ∧ Below w.heap.size w w' := by
  have C1 := Lib.hid (fun w hR => poread_any n0 a1 len1 cap1 bs1 first2 w (by omega) hl1 hR)
  have C2 := Lib.hid (fun w hR => rporead_any n0 a1 len1 cap1 bs1 first2 w (by omega) hR)
  unfold PoReadIs Quiet at C1 C2
  have C3 := Lib.hid (fun w => poleast_any n0 w)
  have C4 := Lib.hid (fun w => rpoleast_any n0 w)
  have HR := Lib.hid R1
  obtain ⟨⟨x, y, d⟩, hr⟩ : ∃ r, r = poRead n0 len1 bs1 first2 := ⟨_, rfl⟩
  rw [← hr] at C1 C2
  generalize poLeast n0 = l at *
  have e1 : ((x : Int) == (x : Int)) = true := by simp
  have e2 : ((y : Int) == (y : Int)) = true := by simp
  have e3 : ((d : Int) == (d : Int)) = true := by simp
  have e4 : ((l : Int) == (l : Int)) = true := by simp
  clear hr R1 hl1 hc1 lo0 hi0
  go_enter Try.func10, Try.ntmps10
  go_wp2_with fail
  refine (C1.out _ HR.out).mono ?_
  rintro e w' ⟨rfl, q1, rfl⟩
  go_wp2_with fail
  refine (C2.out _ (HR.out.drewN q1)).mono ?_
  rintro e w' ⟨rfl, q2, rfl⟩
  go_wp2_with fail
  refine (live13 _).mono ?_
  rintro e w3 ⟨rfl, b3⟩
  have B3 : Hid (Below w.heap.size w w3) := by
    show Below _ _ _
    exact (below_drewN' (Below.refl _ _) _).trans b3
  clear b3
  go_wp2_with fail
  refine (C3.out _).mono ?_
  rintro e w' ⟨rfl, rfl⟩
  go_wp2_with fail
  refine (C4.out _).mono ?_
  rintro e w' ⟨rfl, rfl⟩
  go_wp2_with fail
  go_ret
  exact ⟨rfl, B3.out⟩
end Go.Proofs.Ytlopmkmcjcijcaa
