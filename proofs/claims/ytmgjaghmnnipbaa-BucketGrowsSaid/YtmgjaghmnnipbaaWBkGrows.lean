/-
  The walk of the statement BucketGrows.
-/
import Derived.Test.YtmgjaghmnnipbaaLive24
import Derived.Test.YtmgjaghmnnipbaaBk2
import Derived.Test.YtmgjaghmnnipbaaBkLift
namespace Go.Proofs.Ytmgjaghmnnipbaa
open Go.RowKit
set_option linter.unusedVariables false

set_option maxRecDepth 10000 in
set_option maxHeartbeats 1600000 in
theorem walk_BucketGrows (l r : Nat) (zs : List Int) (w : World) (hl : l ≤ 18446744073709551615) (hr : r ≤ 18446744073709551615) (hn : zs.length = 2) (hz : ∀ z ∈ zs, (Lit.int .u64 z).wf = true) :
    Calls Try.prog 3 #[.int .u64 l, .int .u64 r, .agg (zs.map (Value.int .u64)).toArray] w fun e w' => e = .returned (.bool true) ∧ Below w.heap.size w w' := by
  obtain ⟨a, b, rfl, ha, hb⟩ := two_u64 hn hz
  obtain ⟨q, hq⟩ : ∃ q, q = l + bkPut l r (a * b) := ⟨_, rfl⟩
  obtain ⟨x, hx⟩ : ∃ x, x = whi (a * b - bkPut l r (a * b)) := ⟨_, rfl⟩
  obtain ⟨y, hy⟩ : ∃ y, y = wlo (a * b - bkPut l r (a * b)) := ⟨_, rfl⟩
  have C1 : Hid (∀ w, Calls Try.prog 8 #[.int .u64 l, .int .u64 r, .int .u64 a, .int .u64 b] w fun e w' => e = .returned (.tuple #[.int .u64 q, .agg #[.int .u64 x, .int .u64 y]]) ∧ Below w.heap.size w w') := fun w => bkgrow_any l r a b x y q w hl hr ha hb hq hx hy
  have C2 : Hid (∀ w, Calls Try.prog 9 #[.int .u64 l, .int .u64 r, .int .u64 a, .int .u64 b] w fun e w' => e = .returned (.tuple #[.int .u64 q, .agg #[.int .u64 x, .int .u64 y]]) ∧ Below w.heap.size w w') := fun w => rbkgrow_any l r a b x y q w hl hr ha hb hq hx hy
  obtain ⟨f, g, C3, C4⟩ : ∃ (f : Nat) (g : Int), Hid (∀ w, Calls Try.prog 10 #[.int .u64 r] w fun e w' => e = .returned (.tuple #[.int .u64 f, .int .i64 g]) ∧ Below w.heap.size w w') ∧ Hid (∀ w, Calls Try.prog 11 #[.int .u64 r] w fun e w' => e = .returned (.tuple #[.int .u64 f, .int .i64 g]) ∧ Below w.heap.size w w') := by
    by_cases h : (r : Int) ≤ 4294967296
    · exact ⟨_, 0, fun w => bkfull_ok r _ w h rfl, fun w => rbkfull_ok r _ w h rfl⟩
    · exact ⟨0, 17, fun w => bkfull_no r w (by omega), fun w => rbkfull_no r w (by omega)⟩
  clear hl hr ha hb hq hx hy hz hn
  go_enter Try.func3, Try.ntmps3
  have K0 := Lib.hid (KV.one w 23 [.int .u64 a, .int .u64 b])
  have c0_0 := (K0.out.at 0 rfl).get 0
  have c0_1 := (K0.out.at 0 rfl).get 1
  simp at c0_0 c0_1
  go_wp2_with fail
  refine (C1.out _).mono ?_
  rintro e w1 ⟨rfl, b1⟩
  have K1 := Lib.hid ((K0.out.below b1).new 25 [.int .u64 x, .int .u64 y])
  clear b1 K0 c0_0 c0_1
  have c0_0 := (K1.out.at 0 rfl).get 0
  have c0_1 := (K1.out.at 0 rfl).get 1
  simp at c0_0 c0_1
  go_wp2_with fail
  refine (C2.out _).mono ?_
  rintro e w2 ⟨rfl, b2⟩
  have K2 := Lib.hid ((K1.out.below b2).new 25 [.int .u64 x, .int .u64 y])
  clear b2 K1 c0_0 c0_1
  go_wp2_with fail
  refine (C3.out _).mono ?_
  rintro e w3 ⟨rfl, b3⟩
  have K3 := Lib.hid (K2.out.below b3)
  clear b3 K2
  go_wp2_with fail
  refine (C4.out _).mono ?_
  rintro e w4 ⟨rfl, b4⟩
  have K4 := Lib.hid (K3.out.below b4)
  clear b4 K3
  go_wp2_with fail
  refine (live24 _).mono ?_
  rintro e w5 ⟨rfl, b5⟩
  have K5 := Lib.hid (K4.out.below b5)
  clear b5 K4
  have c1_0 := (K5.out.at 1 rfl).get 0
  have c1_1 := (K5.out.at 1 rfl).get 1
  have c2_0 := (K5.out.at 2 rfl).get 0
  have c2_1 := (K5.out.at 2 rfl).get 1
  simp at c1_0 c1_1 c2_0 c2_1
  go_wp2_with fail
  go_ret
  exact ⟨by simp, K5.out.bel⟩
end Go.Proofs.Ytmgjaghmnnipbaa
