/-
  The walk of the statement BucketWaits.
-/
import Derived.BigQuiet
import Derived.Test.YtmgjaghmnnipbaaLive24
import Derived.Test.YtmgjaghmnnipbaaBk2
import Derived.Test.YtmgjaghmnnipbaaBkLift
namespace Go.Proofs.Ytmgjaghmnnipbaa
open Go.RowKit
set_option linter.unusedVariables false

theorem up_enough (m a : Nat) (ha : 0 < a) : m ≤ a * bkUp m a := by
  unfold bkUp
  have h := Nat.div_add_mod m a
  have h2 := Nat.mod_lt m ha
  rw [Nat.mul_add]
  generalize a * (m / a) = x at *
  generalize m % a = y at *
  by_cases h3 : 0 < y
  · rw [if_pos h3, Nat.mul_one]
    omega
  · rw [if_neg h3, Nat.mul_zero]
    omega
theorem up_least (m a : Nat) (ha : 0 < a) (hm : 0 < m) : 0 < bkUp m a ∧ a * (bkUp m a - 1) < m := by
  unfold bkUp
  have h := Nat.div_add_mod m a
  have h2 := Nat.mod_lt m ha
  generalize m / a = x at *
  generalize m % a = y at *
  by_cases h3 : 0 < y
  · rw [if_pos h3]
    refine ⟨Nat.succ_pos _, ?_⟩
    rw [Nat.add_sub_cancel]
    omega
  · rw [if_neg h3]
    have h5 : 0 < x := Nat.pos_of_ne_zero fun h6 => by rw [h6, Nat.mul_zero] at h; omega
    refine ⟨by omega, ?_⟩
    rw [Nat.add_zero, Nat.mul_sub_one]
    have h6 : a ≤ a * x := Nat.le_mul_of_pos_right a h5
    generalize a * x = z at *
    omega
/-- Where it is told never, it cannot be taken whatever the gain of a time is. -/
theorem bk_never {l r a : Nat} {s : Int} (hl : l ≤ r) (hs : bkIs s = true) (h : bkWill l r a s = false) : bkTime l r a s = 0 ∧ ∀ d, bkCan (l + bkPut l r (a * d)) s = false := by
  unfold bkWill at h
  rw [hs] at h
  simp only [Bool.true_and, Bool.or_eq_false_iff, decide_eq_false_iff_not, Bool.and_eq_false_iff] at h
  obtain ⟨h1, h2⟩ := h
  refine ⟨by unfold bkTime; rw [if_pos hs, if_neg h1, if_pos (by omega)], fun d => ?_⟩
  unfold bkCan
  rw [hs]
  have hp := bkPut_le l r (a * d)
  have h3 : ¬ bkN s ≤ l + bkPut l r (a * d) := by
    rcases h2 with h2 | h2
    · omega
    · have h4 : a = 0 := by omega
      rw [h4, Nat.zero_mul] at hp ⊢
      omega
  simp [h3]
/-- Where it is told a time, it can be taken then, and not a nanosecond earlier. -/
theorem bk_when {l r a : Nat} {s : Int} (hl : l ≤ r) (hs : bkIs s = true) (h : bkWill l r a s = true) : bkCan (l + bkPut l r (a * bkTime l r a s)) s = true ∧ (0 < bkTime l r a s → bkCan (l + bkPut l r (a * (bkTime l r a s - 1))) s = false) := by
  unfold bkWill at h
  rw [hs] at h
  simp only [Bool.true_and, Bool.or_eq_true, decide_eq_true_eq, Bool.and_eq_true] at h
  unfold bkCan bkTime
  rw [if_pos hs, hs]
  by_cases h1 : bkN s ≤ l
  · rw [if_pos h1]
    refine ⟨?_, fun h2 => absurd h2 (by omega)⟩
    have h2 : bkN s ≤ l + bkPut l r 0 := by omega
    simp [h2]
  · have h2 : bkN s ≤ r ∧ 0 < a := by omega
    rw [if_neg h1, if_neg (by omega)]
    have e1 := up_enough (bkN s - l) a h2.2
    have e2 := up_least (bkN s - l) a h2.2 (by omega)
    generalize bkUp (bkN s - l) a = T at *
    generalize bkN s = n at *
    refine ⟨?_, fun _ => ?_⟩
    · have h3 : n ≤ l + bkPut l r (a * T) := by
        unfold bkPut
        split <;> omega
      simp [h3]
    · have h3 : ¬ n ≤ l + bkPut l r (a * (T - 1)) := by
        unfold bkPut
        split <;> omega
      simp [h3]
theorem bk_size {n : Nat} (hn : n < 5000000000) : bkIs (n : Int) = true := by
  rw [bkIs_nat]
  exact decide_eq_true (by omega)

set_option maxRecDepth 10000 in
set_option maxHeartbeats 3200000 in
theorem waits_low (l r a c d n : Nat) (w : World) (hl : l ≤ 18446744073709551615) (hr : r ≤ 18446744073709551615) (ha : a ≤ 18446744073709551615) (hd : d ≤ 18446744073709551615) (hn : n = c % 5000000000) (hlr : l ≤ r) :
    Calls Try.prog 6 #[.int .u64 l, .agg #[.int .u64 r, .int .u64 a], .agg #[.int .u64 c, .int .u64 d]] w fun e w' => e = .returned (.bool true) ∧ Below w.heap.size w w' := by
  have hn5 : n < 5000000000 := by omega
  have hs := bk_size hn5
  have hni : (n : Int) ≤ 9223372036854775807 := by omega
  have wn : wrap64 ((c : Int) % 5000000000) = (n : Int) := by unfold wrap64; omega
  have wn1 : (c : Int) % 5000000000 = (n : Int) := by omega
  have wn2 : IntKind.i64.wrap (n : Int) = (n : Int) := IntWalk.i64_in _ ⟨by omega, by omega⟩
  have wn3 : wrap64 (n : Int) = (n : Int) := by unfold wrap64; omega
  have hc : ¬ (r : Int) < (l : Int) := by omega
  obtain ⟨T, hT⟩ : ∃ T, T = bkTime l r a (n : Int) := ⟨_, rfl⟩
  have hTle : T ≤ 18446744073709551615 := by rw [hT]; exact bkTime_le _ _ _ _
  obtain ⟨v, hv⟩ : ∃ v, v = bkWill l r a (n : Int) := ⟨_, rfl⟩
  have C1 : Hid (∀ w, Calls Try.prog 17 #[.int .u64 l, .int .u64 r, .int .u64 a, .int .i64 n] w fun e w' => e = .returned (.tuple #[.int .u64 T, .bool v]) ∧ Below w.heap.size w w') := fun w => bkwait_any l r a T (n : Int) v w (by omega) hr ha hni hT hv
  cases v with
  | false =>
    obtain ⟨h0, hcant⟩ := bk_never (l := l) (by omega) hs hv.symm
    rw [h0] at hT
    subst hT
    obtain ⟨q, hq⟩ : ∃ q, q = l + bkPut l r (a * d) := ⟨_, rfl⟩
    obtain ⟨x, hx⟩ : ∃ x, x = whi (a * d - bkPut l r (a * d)) := ⟨_, rfl⟩
    obtain ⟨y, hy⟩ : ∃ y, y = wlo (a * d - bkPut l r (a * d)) := ⟨_, rfl⟩
    have hq64 : q ≤ 18446744073709551615 := by rw [hq]; exact bk_level (by omega) hr
    have hcan := hcant d
    rw [← hq] at hcan
    have C2 : Hid (∀ w, Calls Try.prog 8 #[.int .u64 l, .int .u64 r, .int .u64 a, .int .u64 d] w fun e w' => e = .returned (.tuple #[.int .u64 q, .agg #[.int .u64 x, .int .u64 y]]) ∧ Below w.heap.size w w') := fun w => bkgrow_any l r a d x y q w (by omega) hr ha hd hq hx hy
    have C3 : Hid (∀ w, Calls Try.prog 15 #[.int .u64 q, .int .i64 n] w fun e w' => e = .returned (.tuple #[.int .u64 q, .bool false]) ∧ Below w.heap.size w w') := fun w => bktake_any q q (n : Int) false w hq64 hni (bkleft_cant hcan).symm hcan.symm
    clear hl hr ha hd hn hlr hn5 hs hni hTle h0 hcant hcan hq hx hy hq64 hv
    go_enter Try.func6, Try.ntmps6
    have K0 := Lib.hid ((KV.one w 23 [.int .u64 r, .int .u64 a]).new 23 [.int .u64 c, .int .u64 d])
    simp only [World.size_alloc] at K0
    have c0_0 := (K0.out.at 0 rfl).get 0
    have c0_1 := (K0.out.at 0 rfl).get 1
    have c1_0 := (K0.out.at 1 rfl).get 0
    have c1_1 := (K0.out.at 1 rfl).get 1
    simp at c0_0 c0_1 c1_0 c1_1
    go_upto_region 2 with fail
    go_quiet (fail)
    have K0 := Lib.hid (K0.out.drewN nq)
    go_wp2_with fail
    refine (C1.out _).mono ?_
    rintro e w1 ⟨rfl, b1⟩
    have K1 := Lib.hid (K0.out.below b1)
    clear b1 K0 
    clear c0_0 c0_1 c1_0 c1_1
    have c0_0 := (K1.out.at 0 rfl).get 0
    have c0_1 := (K1.out.at 0 rfl).get 1
    have c1_0 := (K1.out.at 1 rfl).get 0
    have c1_1 := (K1.out.at 1 rfl).get 1
    simp at c0_0 c0_1 c1_0 c1_1
    go_wp2_with fail
    refine (C2.out _).mono ?_
    rintro e w2 ⟨rfl, b2⟩
    have K2 := Lib.hid ((K1.out.below b2).new 25 [.int .u64 x, .int .u64 y])
    clear b2 K1 c0_0 c0_1 c1_0 c1_1
    go_wp2_with fail
    refine (C3.out _).mono ?_
    rintro e w3 ⟨rfl, b3⟩
    have K3 := Lib.hid (K2.out.below b3)
    clear b3 K2 
    go_wp2_with fail
    refine (live24 _).mono ?_
    rintro e w4 ⟨rfl, b4⟩
    have K4 := Lib.hid (K3.out.below b4)
    clear b4 K3 
    go_wp2_with fail
    go_ret
    exact ⟨by simp, K4.out.bel⟩
  | true =>
    obtain ⟨hcan, hless⟩ := bk_when (l := l) (by omega) hs hv.symm
    rw [← hT] at hcan hless
    obtain ⟨q, hq⟩ : ∃ q, q = l + bkPut l r (a * T) := ⟨_, rfl⟩
    obtain ⟨x, hx⟩ : ∃ x, x = whi (a * T - bkPut l r (a * T)) := ⟨_, rfl⟩
    obtain ⟨y, hy⟩ : ∃ y, y = wlo (a * T - bkPut l r (a * T)) := ⟨_, rfl⟩
    have hq64 : q ≤ 18446744073709551615 := by rw [hq]; exact bk_level (by omega) hr
    rw [← hq] at hcan
    obtain ⟨u, hu⟩ : ∃ u, u = bkLeft q (n : Int) := ⟨_, rfl⟩
    have C2 : Hid (∀ w, Calls Try.prog 8 #[.int .u64 l, .int .u64 r, .int .u64 a, .int .u64 T] w fun e w' => e = .returned (.tuple #[.int .u64 q, .agg #[.int .u64 x, .int .u64 y]]) ∧ Below w.heap.size w w') := fun w => bkgrow_any l r a T x y q w (by omega) hr ha hTle hq hx hy
    have C3 : Hid (∀ w, Calls Try.prog 15 #[.int .u64 q, .int .i64 n] w fun e w' => e = .returned (.tuple #[.int .u64 u, .bool true]) ∧ Below w.heap.size w w') := fun w => bktake_any q u (n : Int) true w hq64 hni hu hcan.symm
    by_cases hT0 : T = 0
    · subst hT0
      clear hl hr ha hd hn hlr hn5 hs hni hTle hcan hless hq hx hy hq64 hv hT hu
      go_enter Try.func6, Try.ntmps6
      have K0 := Lib.hid ((KV.one w 23 [.int .u64 r, .int .u64 a]).new 23 [.int .u64 c, .int .u64 d])
      simp only [World.size_alloc] at K0
      have c0_0 := (K0.out.at 0 rfl).get 0
      have c0_1 := (K0.out.at 0 rfl).get 1
      have c1_0 := (K0.out.at 1 rfl).get 0
      have c1_1 := (K0.out.at 1 rfl).get 1
      simp at c0_0 c0_1 c1_0 c1_1
      go_upto_region 2 with fail
      go_quiet (fail)
      have K0 := Lib.hid (K0.out.drewN nq)
      go_wp2_with fail
      refine (C1.out _).mono ?_
      rintro e w1 ⟨rfl, b1⟩
      have K1 := Lib.hid (K0.out.below b1)
      clear b1 K0 
      clear c0_0 c0_1 c1_0 c1_1
      go_wp2_with fail
      refine (C2.out _).mono ?_
      rintro e w2 ⟨rfl, b2⟩
      have K2 := Lib.hid ((K1.out.below b2).new 25 [.int .u64 x, .int .u64 y])
      clear b2 K1 
      go_wp2_with fail
      refine (C3.out _).mono ?_
      rintro e w3 ⟨rfl, b3⟩
      have K3 := Lib.hid (K2.out.below b3)
      clear b3 K2 
      go_wp2_with fail
      refine (live24 _).mono ?_
      rintro e w4 ⟨rfl, b4⟩
      have K4 := Lib.hid (K3.out.below b4)
      clear b4 K3 
      go_wp2_with fail
      go_ret
      exact ⟨by simp, K4.out.bel⟩
    · have hcant := hless (by omega)
      have hT1 : IntKind.u64.wrap ((T : Int) - 1) = ((T - 1 : Nat) : Int) := by rw [IntKind.wrap_u64]; omega
      have hTb : ((T : Int) == 0) = false := by rw [beq_eq_false_iff_ne]; omega
      have hTn : ¬ (T : Int) = 0 := by omega
      obtain ⟨T1, hT1e⟩ : ∃ z, z = T - 1 := ⟨_, rfl⟩
      rw [← hT1e] at hT1 hcant
      obtain ⟨q2, hq2⟩ : ∃ q, q = l + bkPut l r (a * T1) := ⟨_, rfl⟩
      obtain ⟨x2, hx2⟩ : ∃ x, x = whi (a * T1 - bkPut l r (a * T1)) := ⟨_, rfl⟩
      obtain ⟨y2, hy2⟩ : ∃ y, y = wlo (a * T1 - bkPut l r (a * T1)) := ⟨_, rfl⟩
      have hq264 : q2 ≤ 18446744073709551615 := by rw [hq2]; exact bk_level (by omega) hr
      rw [← hq2] at hcant
      have C4 : Hid (∀ w, Calls Try.prog 8 #[.int .u64 l, .int .u64 r, .int .u64 a, .int .u64 T1] w fun e w' => e = .returned (.tuple #[.int .u64 q2, .agg #[.int .u64 x2, .int .u64 y2]]) ∧ Below w.heap.size w w') := fun w => bkgrow_any l r a T1 x2 y2 q2 w (by omega) hr ha (by omega) hq2 hx2 hy2
      have C5 : Hid (∀ w, Calls Try.prog 15 #[.int .u64 q2, .int .i64 n] w fun e w' => e = .returned (.tuple #[.int .u64 q2, .bool false]) ∧ Below w.heap.size w w') := fun w => bktake_any q2 q2 (n : Int) false w hq264 hni (bkleft_cant hcant).symm hcant.symm
      clear hl hr ha hd hn hlr hn5 hs hni hTle hcan hless hcant hq hx hy hq64 hv hT hu hT0 hT1e hq2 hx2 hy2 hq264
      go_enter Try.func6, Try.ntmps6
      have K0 := Lib.hid ((KV.one w 23 [.int .u64 r, .int .u64 a]).new 23 [.int .u64 c, .int .u64 d])
      simp only [World.size_alloc] at K0
      have c0_0 := (K0.out.at 0 rfl).get 0
      have c0_1 := (K0.out.at 0 rfl).get 1
      have c1_0 := (K0.out.at 1 rfl).get 0
      have c1_1 := (K0.out.at 1 rfl).get 1
      simp at c0_0 c0_1 c1_0 c1_1
      go_upto_region 2 with fail
      go_quiet (fail)
      have K0 := Lib.hid (K0.out.drewN nq)
      go_wp2_with fail
      refine (C1.out _).mono ?_
      rintro e w1 ⟨rfl, b1⟩
      have K1 := Lib.hid (K0.out.below b1)
      clear b1 K0 
      clear c0_0 c0_1 c1_0 c1_1
      go_wp2_with fail
      refine (C2.out _).mono ?_
      rintro e w2 ⟨rfl, b2⟩
      have K2 := Lib.hid ((K1.out.below b2).new 25 [.int .u64 x, .int .u64 y])
      clear b2 K1 
      go_wp2_with fail
      refine (C3.out _).mono ?_
      rintro e w3 ⟨rfl, b3⟩
      have K3 := Lib.hid (K2.out.below b3)
      clear b3 K2 
      go_wp2_with fail
      refine (C4.out _).mono ?_
      rintro e w4 ⟨rfl, b4⟩
      have K4 := Lib.hid ((K3.out.below b4).new 25 [.int .u64 x2, .int .u64 y2])
      clear b4 K3 
      go_wp2_with fail
      refine (C5.out _).mono ?_
      rintro e w5 ⟨rfl, b5⟩
      have K5 := Lib.hid (K4.out.below b5)
      clear b5 K4 
      go_wp2_with fail
      refine (live24 _).mono ?_
      rintro e w6 ⟨rfl, b6⟩
      have K6 := Lib.hid (K5.out.below b6)
      clear b6 K5 
      go_wp2_with fail
      go_ret
      exact ⟨by simp, K6.out.bel⟩
set_option maxRecDepth 10000 in
set_option maxHeartbeats 3200000 in
theorem waits_high (l r a c d n : Nat) (w : World) (hl : l ≤ 18446744073709551615) (hr : r ≤ 18446744073709551615) (ha : a ≤ 18446744073709551615) (hd : d ≤ 18446744073709551615) (hn : n = c % 5000000000) (hlr : r < l) :
    Calls Try.prog 6 #[.int .u64 l, .agg #[.int .u64 r, .int .u64 a], .agg #[.int .u64 c, .int .u64 d]] w fun e w' => e = .returned (.bool true) ∧ Below w.heap.size w w' := by
  have hn5 : n < 5000000000 := by omega
  have hs := bk_size hn5
  have hni : (n : Int) ≤ 9223372036854775807 := by omega
  have wn : wrap64 ((c : Int) % 5000000000) = (n : Int) := by unfold wrap64; omega
  have wn1 : (c : Int) % 5000000000 = (n : Int) := by omega
  have wn2 : IntKind.i64.wrap (n : Int) = (n : Int) := IntWalk.i64_in _ ⟨by omega, by omega⟩
  have wn3 : wrap64 (n : Int) = (n : Int) := by unfold wrap64; omega
  have hc : (r : Int) < (l : Int) := by omega
  obtain ⟨T, hT⟩ : ∃ T, T = bkTime r r a (n : Int) := ⟨_, rfl⟩
  have hTle : T ≤ 18446744073709551615 := by rw [hT]; exact bkTime_le _ _ _ _
  obtain ⟨v, hv⟩ : ∃ v, v = bkWill r r a (n : Int) := ⟨_, rfl⟩
  have C1 : Hid (∀ w, Calls Try.prog 17 #[.int .u64 r, .int .u64 r, .int .u64 a, .int .i64 n] w fun e w' => e = .returned (.tuple #[.int .u64 T, .bool v]) ∧ Below w.heap.size w w') := fun w => bkwait_any r r a T (n : Int) v w (by omega) hr ha hni hT hv
  cases v with
  | false =>
    obtain ⟨h0, hcant⟩ := bk_never (l := r) (by omega) hs hv.symm
    rw [h0] at hT
    subst hT
    obtain ⟨q, hq⟩ : ∃ q, q = r + bkPut r r (a * d) := ⟨_, rfl⟩
    obtain ⟨x, hx⟩ : ∃ x, x = whi (a * d - bkPut r r (a * d)) := ⟨_, rfl⟩
    obtain ⟨y, hy⟩ : ∃ y, y = wlo (a * d - bkPut r r (a * d)) := ⟨_, rfl⟩
    have hq64 : q ≤ 18446744073709551615 := by rw [hq]; exact bk_level (by omega) hr
    have hcan := hcant d
    rw [← hq] at hcan
    have C2 : Hid (∀ w, Calls Try.prog 8 #[.int .u64 r, .int .u64 r, .int .u64 a, .int .u64 d] w fun e w' => e = .returned (.tuple #[.int .u64 q, .agg #[.int .u64 x, .int .u64 y]]) ∧ Below w.heap.size w w') := fun w => bkgrow_any r r a d x y q w (by omega) hr ha hd hq hx hy
    have C3 : Hid (∀ w, Calls Try.prog 15 #[.int .u64 q, .int .i64 n] w fun e w' => e = .returned (.tuple #[.int .u64 q, .bool false]) ∧ Below w.heap.size w w') := fun w => bktake_any q q (n : Int) false w hq64 hni (bkleft_cant hcan).symm hcan.symm
    clear hl hr ha hd hn hlr hn5 hs hni hTle h0 hcant hcan hq hx hy hq64 hv
    go_enter Try.func6, Try.ntmps6
    have K0 := Lib.hid ((KV.one w 23 [.int .u64 r, .int .u64 a]).new 23 [.int .u64 c, .int .u64 d])
    simp only [World.size_alloc] at K0
    have c0_0 := (K0.out.at 0 rfl).get 0
    have c0_1 := (K0.out.at 0 rfl).get 1
    have c1_0 := (K0.out.at 1 rfl).get 0
    have c1_1 := (K0.out.at 1 rfl).get 1
    simp at c0_0 c0_1 c1_0 c1_1
    go_upto_region 2 with fail
    go_quiet (fail)
    have K0 := Lib.hid (K0.out.drewN nq)
    go_wp2_with fail
    refine (C1.out _).mono ?_
    rintro e w1 ⟨rfl, b1⟩
    have K1 := Lib.hid (K0.out.below b1)
    clear b1 K0 
    clear c0_0 c0_1 c1_0 c1_1
    have c0_0 := (K1.out.at 0 rfl).get 0
    have c0_1 := (K1.out.at 0 rfl).get 1
    have c1_0 := (K1.out.at 1 rfl).get 0
    have c1_1 := (K1.out.at 1 rfl).get 1
    simp at c0_0 c0_1 c1_0 c1_1
    go_wp2_with fail
    refine (C2.out _).mono ?_
    rintro e w2 ⟨rfl, b2⟩
    have K2 := Lib.hid ((K1.out.below b2).new 25 [.int .u64 x, .int .u64 y])
    clear b2 K1 c0_0 c0_1 c1_0 c1_1
    go_wp2_with fail
    refine (C3.out _).mono ?_
    rintro e w3 ⟨rfl, b3⟩
    have K3 := Lib.hid (K2.out.below b3)
    clear b3 K2 
    go_wp2_with fail
    refine (live24 _).mono ?_
    rintro e w4 ⟨rfl, b4⟩
    have K4 := Lib.hid (K3.out.below b4)
    clear b4 K3 
    go_wp2_with fail
    go_ret
    exact ⟨by simp, K4.out.bel⟩
  | true =>
    obtain ⟨hcan, hless⟩ := bk_when (l := r) (by omega) hs hv.symm
    rw [← hT] at hcan hless
    obtain ⟨q, hq⟩ : ∃ q, q = r + bkPut r r (a * T) := ⟨_, rfl⟩
    obtain ⟨x, hx⟩ : ∃ x, x = whi (a * T - bkPut r r (a * T)) := ⟨_, rfl⟩
    obtain ⟨y, hy⟩ : ∃ y, y = wlo (a * T - bkPut r r (a * T)) := ⟨_, rfl⟩
    have hq64 : q ≤ 18446744073709551615 := by rw [hq]; exact bk_level (by omega) hr
    rw [← hq] at hcan
    obtain ⟨u, hu⟩ : ∃ u, u = bkLeft q (n : Int) := ⟨_, rfl⟩
    have C2 : Hid (∀ w, Calls Try.prog 8 #[.int .u64 r, .int .u64 r, .int .u64 a, .int .u64 T] w fun e w' => e = .returned (.tuple #[.int .u64 q, .agg #[.int .u64 x, .int .u64 y]]) ∧ Below w.heap.size w w') := fun w => bkgrow_any r r a T x y q w (by omega) hr ha hTle hq hx hy
    have C3 : Hid (∀ w, Calls Try.prog 15 #[.int .u64 q, .int .i64 n] w fun e w' => e = .returned (.tuple #[.int .u64 u, .bool true]) ∧ Below w.heap.size w w') := fun w => bktake_any q u (n : Int) true w hq64 hni hu hcan.symm
    by_cases hT0 : T = 0
    · subst hT0
      clear hl hr ha hd hn hlr hn5 hs hni hTle hcan hless hq hx hy hq64 hv hT hu
      go_enter Try.func6, Try.ntmps6
      have K0 := Lib.hid ((KV.one w 23 [.int .u64 r, .int .u64 a]).new 23 [.int .u64 c, .int .u64 d])
      simp only [World.size_alloc] at K0
      have c0_0 := (K0.out.at 0 rfl).get 0
      have c0_1 := (K0.out.at 0 rfl).get 1
      have c1_0 := (K0.out.at 1 rfl).get 0
      have c1_1 := (K0.out.at 1 rfl).get 1
      simp at c0_0 c0_1 c1_0 c1_1
      go_upto_region 2 with fail
      go_quiet (fail)
      have K0 := Lib.hid (K0.out.drewN nq)
      go_wp2_with fail
      refine (C1.out _).mono ?_
      rintro e w1 ⟨rfl, b1⟩
      have K1 := Lib.hid (K0.out.below b1)
      clear b1 K0 
      clear c0_0 c0_1 c1_0 c1_1
      go_wp2_with fail
      refine (C2.out _).mono ?_
      rintro e w2 ⟨rfl, b2⟩
      have K2 := Lib.hid ((K1.out.below b2).new 25 [.int .u64 x, .int .u64 y])
      clear b2 K1 
      go_wp2_with fail
      refine (C3.out _).mono ?_
      rintro e w3 ⟨rfl, b3⟩
      have K3 := Lib.hid (K2.out.below b3)
      clear b3 K2 
      go_wp2_with fail
      refine (live24 _).mono ?_
      rintro e w4 ⟨rfl, b4⟩
      have K4 := Lib.hid (K3.out.below b4)
      clear b4 K3 
      go_wp2_with fail
      go_ret
      exact ⟨by simp, K4.out.bel⟩
    · have hcant := hless (by omega)
      have hT1 : IntKind.u64.wrap ((T : Int) - 1) = ((T - 1 : Nat) : Int) := by rw [IntKind.wrap_u64]; omega
      have hTb : ((T : Int) == 0) = false := by rw [beq_eq_false_iff_ne]; omega
      have hTn : ¬ (T : Int) = 0 := by omega
      obtain ⟨T1, hT1e⟩ : ∃ z, z = T - 1 := ⟨_, rfl⟩
      rw [← hT1e] at hT1 hcant
      obtain ⟨q2, hq2⟩ : ∃ q, q = r + bkPut r r (a * T1) := ⟨_, rfl⟩
      obtain ⟨x2, hx2⟩ : ∃ x, x = whi (a * T1 - bkPut r r (a * T1)) := ⟨_, rfl⟩
      obtain ⟨y2, hy2⟩ : ∃ y, y = wlo (a * T1 - bkPut r r (a * T1)) := ⟨_, rfl⟩
      have hq264 : q2 ≤ 18446744073709551615 := by rw [hq2]; exact bk_level (by omega) hr
      rw [← hq2] at hcant
      have C4 : Hid (∀ w, Calls Try.prog 8 #[.int .u64 r, .int .u64 r, .int .u64 a, .int .u64 T1] w fun e w' => e = .returned (.tuple #[.int .u64 q2, .agg #[.int .u64 x2, .int .u64 y2]]) ∧ Below w.heap.size w w') := fun w => bkgrow_any r r a T1 x2 y2 q2 w (by omega) hr ha (by omega) hq2 hx2 hy2
      have C5 : Hid (∀ w, Calls Try.prog 15 #[.int .u64 q2, .int .i64 n] w fun e w' => e = .returned (.tuple #[.int .u64 q2, .bool false]) ∧ Below w.heap.size w w') := fun w => bktake_any q2 q2 (n : Int) false w hq264 hni (bkleft_cant hcant).symm hcant.symm
      clear hl hr ha hd hn hlr hn5 hs hni hTle hcan hless hcant hq hx hy hq64 hv hT hu hT0 hT1e hq2 hx2 hy2 hq264
      go_enter Try.func6, Try.ntmps6
      have K0 := Lib.hid ((KV.one w 23 [.int .u64 r, .int .u64 a]).new 23 [.int .u64 c, .int .u64 d])
      simp only [World.size_alloc] at K0
      have c0_0 := (K0.out.at 0 rfl).get 0
      have c0_1 := (K0.out.at 0 rfl).get 1
      have c1_0 := (K0.out.at 1 rfl).get 0
      have c1_1 := (K0.out.at 1 rfl).get 1
      simp at c0_0 c0_1 c1_0 c1_1
      go_upto_region 2 with fail
      go_quiet (fail)
      have K0 := Lib.hid (K0.out.drewN nq)
      go_wp2_with fail
      refine (C1.out _).mono ?_
      rintro e w1 ⟨rfl, b1⟩
      have K1 := Lib.hid (K0.out.below b1)
      clear b1 K0 
      clear c0_0 c0_1 c1_0 c1_1
      go_wp2_with fail
      refine (C2.out _).mono ?_
      rintro e w2 ⟨rfl, b2⟩
      have K2 := Lib.hid ((K1.out.below b2).new 25 [.int .u64 x, .int .u64 y])
      clear b2 K1 
      go_wp2_with fail
      refine (C3.out _).mono ?_
      rintro e w3 ⟨rfl, b3⟩
      have K3 := Lib.hid (K2.out.below b3)
      clear b3 K2 
      go_wp2_with fail
      refine (C4.out _).mono ?_
      rintro e w4 ⟨rfl, b4⟩
      have K4 := Lib.hid ((K3.out.below b4).new 25 [.int .u64 x2, .int .u64 y2])
      clear b4 K3 
      go_wp2_with fail
      refine (C5.out _).mono ?_
      rintro e w5 ⟨rfl, b5⟩
      have K5 := Lib.hid (K4.out.below b5)
      clear b5 K4 
      go_wp2_with fail
      refine (live24 _).mono ?_
      rintro e w6 ⟨rfl, b6⟩
      have K6 := Lib.hid (K5.out.below b6)
      clear b6 K5 
      go_wp2_with fail
      go_ret
      exact ⟨by simp, K6.out.bel⟩
theorem walk_BucketWaits (l : Nat) (zs ys : List Int) (w : World) (hl : l ≤ 18446744073709551615) (hn : zs.length = 2) (hz : ∀ z ∈ zs, (Lit.int .u64 z).wf = true) (hn2 : ys.length = 2) (hz2 : ∀ z ∈ ys, (Lit.int .u64 z).wf = true) :
    Calls Try.prog 6 #[.int .u64 l, .agg (zs.map (Value.int .u64)).toArray, .agg (ys.map (Value.int .u64)).toArray] w fun e w' => e = .returned (.bool true) ∧ Below w.heap.size w w' := by
  obtain ⟨r, a, rfl, hr, ha⟩ := two_u64 hn hz
  obtain ⟨c, d, rfl, hc, hd⟩ := two_u64 hn2 hz2
  rcases Nat.lt_or_ge r l with h | h
  · exact waits_high l r a c d _ w hl hr ha hd rfl h
  · exact waits_low l r a c d _ w hl hr ha hd rfl h
end Go.Proofs.Ytmgjaghmnnipbaa
