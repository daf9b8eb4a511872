/-
  The walk of the statement BucketTakes.
-/
import Derived.Test.YtmgjaghmnnipbaaLive24
import Derived.Test.YtmgjaghmnnipbaaBk2
import Derived.Test.YtmgjaghmnnipbaaBkLift
namespace Go.Proofs.Ytmgjaghmnnipbaa
open Go.RowKit
set_option linter.unusedVariables false

set_option maxRecDepth 10000 in
set_option maxHeartbeats 1600000 in
theorem walk_BucketTakes (l : Nat) (zs : List Int) (s : Int) (w : World) (hl : l ≤ 18446744073709551615) (hn : zs.length = 2) (hz : ∀ z ∈ zs, (Lit.int .u64 z).wf = true) (lo : -9223372036854775808 ≤ s) (hi : s ≤ 9223372036854775807) :
    Calls Try.prog 4 #[.int .u64 l, .agg (zs.map (Value.int .u64)).toArray, .int .i64 s] w fun e w' => e = .returned (.bool true) ∧ Below w.heap.size w w' := by
  obtain ⟨a, b, rfl, ha, hb⟩ := two_u64 hn hz
  obtain ⟨n, hn'⟩ : ∃ n, n = bkN s := ⟨_, rfl⟩
  obtain ⟨t, ht⟩ : ∃ t, t = bkIs s := ⟨_, rfl⟩
  obtain ⟨q, hq⟩ : ∃ q, q = bkLeft l s := ⟨_, rfl⟩
  obtain ⟨u, hu⟩ : ∃ u, u = bkCan l s := ⟨_, rfl⟩
  obtain ⟨x, hx⟩ : ∃ x, x = bkTime l a b s := ⟨_, rfl⟩
  obtain ⟨v, hv⟩ : ∃ v, v = bkWill l a b s := ⟨_, rfl⟩
  have C1 : Hid (∀ w, Calls Try.prog 13 #[.int .i64 s] w fun e w' => e = .returned (.tuple #[.int .u64 n, .bool t]) ∧ Below w.heap.size w w') := fun w => bkneed_any s n t w hi hn' ht
  have C3 : Hid (∀ w, Calls Try.prog 15 #[.int .u64 l, .int .i64 s] w fun e w' => e = .returned (.tuple #[.int .u64 q, .bool u]) ∧ Below w.heap.size w w') := fun w => bktake_any l q s u w hl hi hq hu
  have C5 : Hid (∀ w, Calls Try.prog 17 #[.int .u64 l, .int .u64 a, .int .u64 b, .int .i64 s] w fun e w' => e = .returned (.tuple #[.int .u64 x, .bool v]) ∧ Below w.heap.size w w') := fun w => bkwait_any l a b x s v w hl ha hb hi hx hv
  have C2 : Hid (∀ w, Calls Try.prog 14 #[.int .i64 s] w fun e w' => e = .returned (.tuple #[.int .u64 n, .bool t]) ∧ Below w.heap.size w w') := fun w => rbkneed_any s n t w hi hn' ht
  have C4 : Hid (∀ w, Calls Try.prog 16 #[.int .u64 l, .int .i64 s] w fun e w' => e = .returned (.tuple #[.int .u64 q, .bool u]) ∧ Below w.heap.size w w') := fun w => rbktake_any l q s u w hl hi hq hu
  have C6 : Hid (∀ w, Calls Try.prog 18 #[.int .u64 l, .int .u64 a, .int .u64 b, .int .i64 s] w fun e w' => e = .returned (.tuple #[.int .u64 x, .bool v]) ∧ Below w.heap.size w w') := fun w => rbkwait_any l a b x s v w hl ha hb hi hx hv
  clear hl ha hb hn hz lo hi hn' ht hq hu hx hv
  go_enter Try.func4, Try.ntmps4
  have K0 := Lib.hid (KV.one w 23 [.int .u64 a, .int .u64 b])
  have c0_0 := (K0.out.at 0 rfl).get 0
  have c0_1 := (K0.out.at 0 rfl).get 1
  simp at c0_0 c0_1
  go_wp2_with fail
  refine (C1.out _).mono ?_
  rintro e w1 ⟨rfl, b1⟩
  have K1 := Lib.hid (K0.out.below b1)
  clear b1 K0 c0_0 c0_1
  have c0_0 := (K1.out.at 0 rfl).get 0
  have c0_1 := (K1.out.at 0 rfl).get 1
  simp at c0_0 c0_1
  go_wp2_with fail
  refine (C2.out _).mono ?_
  rintro e w2 ⟨rfl, b2⟩
  have K2 := Lib.hid (K1.out.below b2)
  clear b2 K1 c0_0 c0_1
  have c0_0 := (K2.out.at 0 rfl).get 0
  have c0_1 := (K2.out.at 0 rfl).get 1
  simp at c0_0 c0_1
  go_wp2_with fail
  refine (C3.out _).mono ?_
  rintro e w3 ⟨rfl, b3⟩
  have K3 := Lib.hid (K2.out.below b3)
  clear b3 K2 c0_0 c0_1
  have c0_0 := (K3.out.at 0 rfl).get 0
  have c0_1 := (K3.out.at 0 rfl).get 1
  simp at c0_0 c0_1
  go_wp2_with fail
  refine (C4.out _).mono ?_
  rintro e w4 ⟨rfl, b4⟩
  have K4 := Lib.hid (K3.out.below b4)
  clear b4 K3 c0_0 c0_1
  have c0_0 := (K4.out.at 0 rfl).get 0
  have c0_1 := (K4.out.at 0 rfl).get 1
  simp at c0_0 c0_1
  go_wp2_with fail
  refine (C5.out _).mono ?_
  rintro e w5 ⟨rfl, b5⟩
  have K5 := Lib.hid (K4.out.below b5)
  clear b5 K4 c0_0 c0_1
  have c0_0 := (K5.out.at 0 rfl).get 0
  have c0_1 := (K5.out.at 0 rfl).get 1
  simp at c0_0 c0_1
  go_wp2_with fail
  refine (C6.out _).mono ?_
  rintro e w6 ⟨rfl, b6⟩
  have K6 := Lib.hid (K5.out.below b6)
  clear b6 K5 c0_0 c0_1
  have c0_0 := (K6.out.at 0 rfl).get 0
  have c0_1 := (K6.out.at 0 rfl).get 1
  simp at c0_0 c0_1
  go_wp2_with fail
  refine (live24 _).mono ?_
  rintro e w7 ⟨rfl, b7⟩
  have K7 := Lib.hid (K6.out.below b7)
  clear b7 K6 c0_0 c0_1
  go_wp2_with fail
  go_ret
  exact ⟨by simp, K7.out.bel⟩
end Go.Proofs.Ytmgjaghmnnipbaa
