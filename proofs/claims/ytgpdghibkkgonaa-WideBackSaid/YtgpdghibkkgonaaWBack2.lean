/-
  The walk of the statement WideBack.
-/
import Derived.Test.YtgpdghibkkgonaaLive2
import Derived.Deep.RegionHeld3
namespace Go.Proofs.Ytgpdghibkkgonaa
open Go.RowKit
set_option linter.unusedVariables false
attribute [local go_sem ↓] Go.wp_at_zero Go.wp_at_succ

/-- Some numbers of two words lie in their blocks. -/
def Twos (W : World) (l : List (Nat × Nat × Nat)) : Prop := ∀ t ∈ l, Two W t.1 (t.2.1 : Int) (t.2.2 : Int)
theorem Twos.below {w w' : World} {l : List (Nat × Nat × Nat)} (h : Twos w l) (hb : Below w.heap.size w w') : Twos w' l := fun t ht => (h t ht).below hb
theorem Twos.push {w : World} {l : List (Nat × Nat × Nat)} (h : Twos w l) (a b : Nat) : Twos (w.alloc (.cells #[.int .u64 a, .int .u64 b] 24)) ((w.heap.size, a, b) :: l) := fun t ht => by
  rcases List.mem_cons.1 ht with rfl | ht
  · exact Two.new w a b
  · exact (h t ht).alloc _
theorem Twos.push0 {w : World} {l : List (Nat × Nat × Nat)} (h : Twos w l) (b : Nat) : Twos (w.alloc (.cells #[.int .u64 0, .int .u64 b] 24)) ((w.heap.size, 0, b) :: l) := h.push 0 b
theorem Twos.drew {w : World} {l : List (Nat × Nat × Nat)} (h : Twos w l) : Twos w.drew l := h
theorem Twos.nil (w : World) : Twos w [] := fun t ht => by cases ht
theorem Twos.get {w : World} {l : List (Nat × Nat × Nat)} (h : Twos w l) (g a b : Nat) (hm : (g, a, b) ∈ l) : w.cell? ⟨g, 0, none⟩ = some (.int .u64 a) ∧ w.cell? ⟨g, 1, none⟩ = some (.int .u64 b) := h _ hm

theorem back_sub {A B : Nat} (hA : A < w128) (hB : B < w128) : whi ((A + B) % w128 + w128 - B) = whi A ∧ wlo ((A + B) % w128 + w128 - B) = wlo A := by
  rw [← (words_mod _).1, ← (words_mod _).2, show ((A + B) % w128 + w128 - B) % w128 = A from by unfold w128 at *; omega]
  exact ⟨rfl, rfl⟩
/-- What a long division leaves behind, put together again. -/
theorem back_div {A n : Nat} (hA : A < w128) (hn : 0 < n) (hn2 : n ≤ 18446744073709551615) :
    whi (whi (A / n) * n) = 0 ∧ whi (wnum (wlo (whi (A / n) * n)) 0 + wnum (whi (wlo (A / n) * n + A % n)) (wlo (wlo (A / n) * n + A % n))) = whi A ∧
    wlo (wnum (wlo (whi (A / n) * n)) 0 + wnum (whi (wlo (A / n) * n + A % n)) (wlo (wlo (A / n) * n + A % n))) = wlo A ∧
    wnum (wlo (whi (A / n) * n)) 0 + wnum (whi (wlo (A / n) * n + A % n)) (wlo (wlo (A / n) * n + A % n)) < w128 := by
  have h1 : A / n * n + A % n = A := by rw [Nat.mul_comm]; exact Nat.div_add_mod A n
  have hq : A / n < w128 := Nat.lt_of_le_of_lt (Nat.div_le_self _ _) hA
  have h2 := words_back hq
  have h3 : whi (A / n) * n * 18446744073709551616 + (wlo (A / n) * n + A % n) = A := by
    have e : A / n * n = whi (A / n) * n * 18446744073709551616 + wlo (A / n) * n := by
      conv => lhs; rw [h2]
      unfold wnum
      rw [Nat.add_mul, Nat.mul_right_comm]
    omega
  generalize whi (A / n) * n = u at *
  generalize wlo (A / n) * n + A % n = v at *
  have hA' : A < 340282366920938463463374607431768211456 := hA
  have e1 : whi u = 0 := by unfold whi; omega
  have e2 : wlo u = u := by unfold wlo; omega
  have e3 : wnum (whi v) (wlo v) = v := by rw [wnum_words, Nat.mod_eq_of_lt (Nat.lt_of_le_of_lt (by omega) hA)]
  rw [e1, e2, e3]
  have e4 : wnum u 0 + v = A := by
    unfold wnum
    rw [Nat.add_zero]
    exact h3
  rw [e4]
  exact ⟨rfl, rfl, rfl, hA⟩

/-- What the calls answer where the divisor is not 0. -/
theorem back_calls (a b n p q : Nat) (ha : a ≤ 18446744073709551615) (hb : b ≤ 18446744073709551615) (hn : n ≤ 18446744073709551615) (h0 : 0 < n) (hp : p = whi (b * n)) (hq : q = wlo (b * n)) :
    ∃ (k h r l m0 m1 o0 o1 : Nat) (s1 : Bool), r < n ∧
      (∀ w, Calls Try.prog 23 #[.agg #[.int .u64 p, .int .u64 q], .int .u64 n] w fun e w' => e = .returned (.tuple #[.agg #[.int .u64 0, .int .u64 b], .int .u64 0]) ∧ Below w.heap.size w w') ∧
      (∀ w, Calls Try.prog 23 #[.agg #[.int .u64 a, .int .u64 b], .int .u64 n] w fun e w' => e = .returned (.tuple #[.agg #[.int .u64 k, .int .u64 h], .int .u64 r]) ∧ Below w.heap.size w w') ∧
      (∀ w, Calls Try.prog 22 #[.int .u64 k, .int .u64 n] w fun e w' => e = .returned (.agg #[.int .u64 0, .int .u64 l]) ∧ Below w.heap.size w w') ∧
      (∀ w, Calls Try.prog 22 #[.int .u64 h, .int .u64 n] w fun e w' => e = .returned (.agg #[.int .u64 m0, .int .u64 m1]) ∧ Below w.heap.size w w') ∧
      (∀ w, Calls Try.prog 20 #[.agg #[.int .u64 m0, .int .u64 m1], .agg #[.int .u64 0, .int .u64 r]] w fun e w' => e = .returned (.tuple #[.agg #[.int .u64 o0, .int .u64 o1], .bool s1]) ∧ Below w.heap.size w w') ∧
      (∀ w, Calls Try.prog 20 #[.agg #[.int .u64 l, .int .u64 0], .agg #[.int .u64 o0, .int .u64 o1]] w fun e w' => e = .returned (.tuple #[.agg #[.int .u64 a, .int .u64 b], .bool false]) ∧ Below w.heap.size w w') := by
  obtain ⟨A, hA⟩ : ∃ A, A = wnum a b := ⟨_, rfl⟩
  have lA : A < w128 := by rw [hA]; exact wnum_lt ha hb
  obtain ⟨e1, e2, e3, e4⟩ := back_div lA h0 hn
  have hr : A % n < n := Nat.mod_lt _ h0
  refine ⟨whi (A / n), wlo (A / n), A % n, wlo (whi (A / n) * n), whi (wlo (A / n) * n), wlo (wlo (A / n) * n), whi (wlo (A / n) * n + A % n), wlo (wlo (A / n) * n + A % n), decide (w128 ≤ wlo (A / n) * n + A % n), hr, ?_, ?_, ?_, ?_, ?_, ?_⟩
  · intro w
    have hl := prod_lt hb hn
    have h := div_any p q n (b * n) w h0 (by rw [hp, hq]; exact words_back hl) (by rw [hp]; exact whi_le _) (by rw [hq]; exact wlo_le _) hn
    rw [Nat.mul_div_cancel _ h0, Nat.mul_mod_left] at h
    rw [show whi b = 0 from by unfold whi; omega, show wlo b = b from by unfold wlo; omega] at h
    exact h
  · intro w
    exact div_any a b n A w h0 hA ha hb hn
  · intro w
    have h := mul_any (whi (A / n)) n w (whi_le _) hn
    rw [e1] at h
    exact h
  · intro w
    exact mul_any (wlo (A / n)) n w (wlo_le _) hn
  · intro w
    have hl := prod_lt (wlo_le (A / n)) hn
    exact add_raw _ _ 0 (A % n) (wlo (A / n) * n + A % n) _ w (whi_le _) (wlo_le _) (by decide) (by omega) (by rw [← words_back hl, wnum_zero]; rfl) rfl
  · intro w
    have h := add_raw _ 0 _ _ (wnum (wlo (whi (A / n) * n)) 0 + wnum (whi (wlo (A / n) * n + A % n)) (wlo (wlo (A / n) * n + A % n))) false w (wlo_le (whi (A / n) * n)) (by decide) (whi_le (wlo (A / n) * n + A % n)) (wlo_le (wlo (A / n) * n + A % n)) rfl
      (decide_eq_false (by omega)).symm
    rw [e2, e3, hA, whi_num ha hb, wlo_num hb] at h
    rw [hA]
    exact h

set_option maxRecDepth 10000 in
set_option maxHeartbeats 3200000 in
theorem walk_WideBack (a b c d n : Nat) (w : World) (ha : a ≤ 18446744073709551615) (hb : b ≤ 18446744073709551615) (hc : c ≤ 18446744073709551615) (hd : d ≤ 18446744073709551615) (hn : n ≤ 18446744073709551615) :
    Calls Try.prog 4 #[.agg #[.int .u64 a, .int .u64 b], .agg #[.int .u64 c, .int .u64 d], .int .u64 n] w fun e w' => e = .returned (.bool true) ∧ Below w.heap.size w w' := by
  obtain ⟨A, hA⟩ : ∃ A, A = wnum a b := ⟨_, rfl⟩
  obtain ⟨B, hB⟩ : ∃ B, B = wnum c d := ⟨_, rfl⟩
  have lA : A < w128 := by rw [hA]; exact wnum_lt ha hb
  have lB : B < w128 := by rw [hB]; exact wnum_lt hc hd
  obtain ⟨x, hx⟩ : ∃ x, x = whi (A + B) := ⟨_, rfl⟩
  obtain ⟨y, hy⟩ : ∃ y, y = wlo (A + B) := ⟨_, rfl⟩
  obtain ⟨s, hs⟩ : ∃ s, s = decide (w128 ≤ A + B) := ⟨_, rfl⟩
  have hxl : x ≤ 18446744073709551615 := by rw [hx]; exact whi_le _
  have hyl : y ≤ 18446744073709551615 := by rw [hy]; exact wlo_le _
  have hxy : wnum x y = (A + B) % w128 := by rw [hx, hy]; exact wnum_words _
  obtain ⟨t, ht⟩ : ∃ t, t = decide (wnum x y < wnum c d) := ⟨_, rfl⟩
  obtain ⟨p, hp⟩ : ∃ p, p = whi (b * n) := ⟨_, rfl⟩
  obtain ⟨q, hq⟩ : ∃ q, q = wlo (b * n) := ⟨_, rfl⟩
  have C1 : Hid (∀ w, Calls Try.prog 20 #[.agg #[.int .u64 a, .int .u64 b], .agg #[.int .u64 c, .int .u64 d]] w fun e w' => e = .returned (.tuple #[.agg #[.int .u64 x, .int .u64 y], .bool s]) ∧ Below w.heap.size w w') := by
    rw [hx, hy, hs]; exact fun w => add_raw a b c d (A + B) _ w ha hb hc hd (by rw [hA, hB]; rfl) rfl
  have C2 : Hid (∀ w, Calls Try.prog 21 #[.agg #[.int .u64 x, .int .u64 y], .agg #[.int .u64 c, .int .u64 d]] w fun e w' => e = .returned (.tuple #[.agg #[.int .u64 a, .int .u64 b], .bool t]) ∧ Below w.heap.size w w') := by
    obtain ⟨e1, e2⟩ := back_sub lA lB
    rw [ht]
    intro w
    have h := sub_raw x y c d ((A + B) % w128 + w128 - B) _ w hxl hyl hc hd (by rw [hxy, hB]; rfl) rfl
    rw [e1, e2, hA, whi_num ha hb, wlo_num hb] at h
    exact h
  have C3 : Hid (∀ w, Calls Try.prog 20 #[.agg #[.int .u64 c, .int .u64 d], .agg #[.int .u64 a, .int .u64 b]] w fun e w' => e = .returned (.tuple #[.agg #[.int .u64 x, .int .u64 y], .bool s]) ∧ Below w.heap.size w w') := by
    rw [hx, hy, hs]; exact fun w => add_raw c d a b (A + B) _ w hc hd ha hb (by rw [hA, hB, Nat.add_comm]; rfl) rfl
  have C4 : Hid (∀ w, Calls Try.prog 22 #[.int .u64 b, .int .u64 n] w fun e w' => e = .returned (.agg #[.int .u64 p, .int .u64 q]) ∧ Below w.heap.size w w') := by
    rw [hp, hq]; exact fun w => mul_any b n w hb hn
  have C5 : Hid (∀ w, Calls Try.prog 22 #[.int .u64 n, .int .u64 b] w fun e w' => e = .returned (.agg #[.int .u64 p, .int .u64 q]) ∧ Below w.heap.size w w') := by
    rw [hp, hq, Nat.mul_comm]; exact fun w => mul_any n b w hn hb
  have H0 : Hid (n = 0 ∨ (0 < n ∧ True)) := by
    rcases Nat.eq_zero_or_pos n with h | h
    · exact .inl h
    · exact .inr ⟨h, trivial⟩
  have CN : Hid (0 < n → ∃ (k h r l m0 m1 o0 o1 : Nat) (s1 : Bool), r < n ∧
      (∀ w, Calls Try.prog 23 #[.agg #[.int .u64 p, .int .u64 q], .int .u64 n] w fun e w' => e = .returned (.tuple #[.agg #[.int .u64 0, .int .u64 b], .int .u64 0]) ∧ Below w.heap.size w w') ∧
      (∀ w, Calls Try.prog 23 #[.agg #[.int .u64 a, .int .u64 b], .int .u64 n] w fun e w' => e = .returned (.tuple #[.agg #[.int .u64 k, .int .u64 h], .int .u64 r]) ∧ Below w.heap.size w w') ∧
      (∀ w, Calls Try.prog 22 #[.int .u64 k, .int .u64 n] w fun e w' => e = .returned (.agg #[.int .u64 0, .int .u64 l]) ∧ Below w.heap.size w w') ∧
      (∀ w, Calls Try.prog 22 #[.int .u64 h, .int .u64 n] w fun e w' => e = .returned (.agg #[.int .u64 m0, .int .u64 m1]) ∧ Below w.heap.size w w') ∧
      (∀ w, Calls Try.prog 20 #[.agg #[.int .u64 m0, .int .u64 m1], .agg #[.int .u64 0, .int .u64 r]] w fun e w' => e = .returned (.tuple #[.agg #[.int .u64 o0, .int .u64 o1], .bool s1]) ∧ Below w.heap.size w w') ∧
      (∀ w, Calls Try.prog 20 #[.agg #[.int .u64 l, .int .u64 0], .agg #[.int .u64 o0, .int .u64 o1]] w fun e w' => e = .returned (.tuple #[.agg #[.int .u64 a, .int .u64 b], .bool false]) ∧ Below w.heap.size w w')) :=
    fun h => back_calls a b n p q ha hb hn h hp hq
  clear hA hB hx hy hs ht hp hq lA lB hxl hyl hxy
  have T0 := Lib.hid (((Twos.nil w).push a b).push c d)
  have BB := Lib.hid (below_two w (.cells #[.int .u64 a, .int .u64 b] 24) (.cells #[.int .u64 c, .int .u64 d] 24))
  simp only [World.size_alloc] at T0
  go_enter Try.func4, Try.ntmps4
  go_wp2_with fail
  refine (C1.out _).mono ?_
  rintro e w1 ⟨rfl, b1⟩
  have T1 := Lib.hid ((T0.out.below b1).push x y)
  have BB := Lib.hid ((below_both BB.out b1).alloc (below_both BB.out b1).size (.cells #[.int .u64 x, .int .u64 y] 24))
  clear b1 T0
  obtain ⟨a0, a1⟩ := T1.out.get w.heap.size a b (by simp)
  obtain ⟨c0, c1⟩ := T1.out.get (w.heap.size + 1) c d (by simp)
  obtain ⟨x0, x1⟩ := T1.out.get w1.heap.size x y (by simp)
  go_wp2_with fail
  refine (C2.out _).mono ?_
  rintro e w2 ⟨rfl, b2⟩
  have T2 := Lib.hid ((T1.out.below b2).push a b)
  have BB := Lib.hid ((below_both BB.out b2).alloc (below_both BB.out b2).size (.cells #[.int .u64 a, .int .u64 b] 24))
  clear b2 T1 a0 a1 c0 c1 x0 x1
  obtain ⟨a0, a1⟩ := T2.out.get w.heap.size a b (by simp)
  obtain ⟨c0, c1⟩ := T2.out.get (w.heap.size + 1) c d (by simp)
  go_wp2_with fail
  refine (C3.out _).mono ?_
  rintro e w3 ⟨rfl, b3⟩
  have T3 := Lib.hid ((T2.out.below b3).push x y)
  have BB := Lib.hid ((below_both BB.out b3).alloc (below_both BB.out b3).size (.cells #[.int .u64 x, .int .u64 y] 24))
  clear b3 T2 a0 a1 c0 c1
  go_wp2_with fail
  generalize w3.alloc (.cells #[.int .u64 x, .int .u64 y] 24) = w5 at *
  generalize w1.heap.size = g1 at *
  generalize w2.heap.size = g2 at *
  generalize w3.heap.size = g3 at *
  have h1 := T3.out.get w.heap.size a b (by simp)
  have h2 := T3.out.get g1 x y (by simp)
  have h3 := T3.out.get g2 a b (by simp)
  have h4 := T3.out.get g3 x y (by simp)
  go_region_held3 (fun w' => (w'.cell? ⟨w.heap.size, 0, none⟩ = some (.int .u64 a) ∧ w'.cell? ⟨w.heap.size, 1, none⟩ = some (.int .u64 b)) ∧ (w'.cell? ⟨g1, 0, none⟩ = some (.int .u64 x) ∧ w'.cell? ⟨g1, 1, none⟩ = some (.int .u64 y)) ∧
      (w'.cell? ⟨g2, 0, none⟩ = some (.int .u64 a) ∧ w'.cell? ⟨g2, 1, none⟩ = some (.int .u64 b)) ∧ (w'.cell? ⟨g3, 0, none⟩ = some (.int .u64 x) ∧ w'.cell? ⟨g3, 1, none⟩ = some (.int .u64 y)))
    (first | exact ⟨h1, h2, h3, h4⟩ | exact ⟨T3.out.get w.heap.size a b (by simp), T3.out.get g1 x y (by simp), T3.out.get g2 a b (by simp), T3.out.get g3 x y (by simp)⟩ | go_keep)
    (first
      | (go_at_call 22; (with_reducible refine (C4.out _).mono ?_); rintro e w' ⟨rfl, hb'⟩; have BB := Lib.hid (by first | exact below_both BB.out hb' | exact below_both BB.out.drew hb'); have T3 := Lib.hid (by first | exact T3.out.below hb' | exact T3.out.drew.below hb'))
      | (go_at_call 22; (with_reducible refine (C5.out _).mono ?_); rintro e w' ⟨rfl, hb'⟩; have BB := Lib.hid (by first | exact below_both BB.out hb' | exact below_both BB.out.drew hb'); have T3 := Lib.hid (by first | exact T3.out.below hb' | exact T3.out.drew.below hb'))
      | fail)
  rcases H0.out with h0 | ⟨h0, _⟩
  · subst h0
    clear CN H0
    go_wp2_with fail
    refine (live2 _).mono ?_
    rintro e w6 ⟨rfl, b6⟩
    have BB := Lib.hid (below_both BB.out b6)
    clear b6
    go_wp2_with fail
    go_ret
    exact ⟨rfl, BB.out⟩
  · obtain ⟨k, h, r, l, m0, m1, o0, o1, s1, hr, d1, d2, e1, e2, f1, f2⟩ := CN.out h0
    have D1 := Lib.hid d1
    have D2 := Lib.hid d2
    have E1 := Lib.hid e1
    have E2 := Lib.hid e2
    have F1 := Lib.hid f1
    have F2 := Lib.hid f2
    clear d1 d2 e1 e2 f1 f2 CN H0 C1 C2 C3 C5 h1 h2 h3 h4
    have hni : ((n : Int) == 0) = false := by simp; omega
    have hrn : (r : Int) < (n : Int) := by omega
    have T4 := Lib.hid (show Twos w' [(w.heap.size, a, b)] from fun t ht => T3.out t (by simp at ht; subst ht; simp))
    clear T3
    rename_i hheld
    clear hheld
    obtain ⟨a0, a1⟩ := T4.out.get w.heap.size a b (by simp)
    go_wp2_with fail
    refine (C4.out _).mono ?_
    rintro e w6 ⟨rfl, b6⟩
    have T4 := Lib.hid (T4.out.below b6)
    have BB := Lib.hid (below_both BB.out b6)
    clear b6 a0 a1
    go_wp2_with fail
    refine (D1.out _).mono ?_
    rintro e w7 ⟨rfl, b7⟩
    have T4 := Lib.hid ((T4.out.below b7).push0 b)
    have BB := Lib.hid ((below_both BB.out b7).alloc (below_both BB.out b7).size (.cells #[.int .u64 0, .int .u64 b] 24))
    clear b7
    go_wp2_with fail
    generalize w7.alloc (.cells #[.int .u64 0, .int .u64 b] 24) = w8 at *
    generalize w7.heap.size = g4 at *
    have h1 := T4.out.get w.heap.size a b (by simp)
    have h2 := T4.out.get g4 0 b (by simp)
    go_region_held3 (fun w' => (w'.cell? ⟨w.heap.size, 0, none⟩ = some (.int .u64 a) ∧ w'.cell? ⟨w.heap.size, 1, none⟩ = some (.int .u64 b)) ∧ (w'.cell? ⟨g4, 0, none⟩ = some (.int .u64 0) ∧ w'.cell? ⟨g4, 1, none⟩ = some (.int .u64 b)))
      (first | exact ⟨h1, h2⟩ | exact ⟨T4.out.get w.heap.size a b (by simp), T4.out.get g4 0 b (by simp)⟩ | go_keep)
      (first
        | (go_at_call 24; (refine (of_any b _).mono ?_); rintro e w' ⟨rfl, hb'⟩; have BB := Lib.hid (by first | exact below_both BB.out hb' | exact below_both BB.out.drew hb'); have T4 := Lib.hid (by first | exact T4.out.below hb' | exact T4.out.drew.below hb'))
        | fail)
    rename_i hheld
    clear hheld
    clear h1 h2
    obtain ⟨a0, a1⟩ := T4.out.get w.heap.size a b (by simp)
    go_wp2_with fail
    refine (D2.out _).mono ?_
    rintro e w9 ⟨rfl, b9⟩
    have T5 := Lib.hid ((T4.out.below b9).push k h)
    have BB := Lib.hid ((below_both BB.out b9).alloc (below_both BB.out b9).size (.cells #[.int .u64 k, .int .u64 h] 24))
    clear b9 a0 a1 T4
    obtain ⟨c0, c1⟩ := T5.out.get w9.heap.size k h (by simp)
    go_wp2_with fail
    refine (E1.out _).mono ?_
    rintro e w10 ⟨rfl, b10⟩
    have T5 := Lib.hid ((T5.out.below b10).push0 l)
    have BB := Lib.hid ((below_both BB.out b10).alloc (below_both BB.out b10).size (.cells #[.int .u64 0, .int .u64 l] 24))
    clear b10 c0 c1
    obtain ⟨c0, c1⟩ := T5.out.get w9.heap.size k h (by simp)
    go_wp2_with fail
    refine (E2.out _).mono ?_
    rintro e w11 ⟨rfl, b11⟩
    have T5 := Lib.hid (T5.out.below b11)
    have BB := Lib.hid (below_both BB.out b11)
    clear b11 c0 c1
    go_wp2_with fail
    refine (of_any r _).mono ?_
    rintro e w12 ⟨rfl, b12⟩
    have T5 := Lib.hid (T5.out.below b12)
    have BB := Lib.hid (below_both BB.out b12)
    clear b12
    go_wp2_with fail
    refine (F1.out _).mono ?_
    rintro e w13 ⟨rfl, b13⟩
    have T5 := Lib.hid ((T5.out.below b13).push o0 o1)
    have BB := Lib.hid ((below_both BB.out b13).alloc (below_both BB.out b13).size (.cells #[.int .u64 o0, .int .u64 o1] 24))
    clear b13
    obtain ⟨c0, c1⟩ := T5.out.get w13.heap.size o0 o1 (by simp)
    obtain ⟨x0, x1⟩ := T5.out.get w10.heap.size 0 l (by simp)
    go_wp2_with fail
    refine (F2.out _).mono ?_
    rintro e w14 ⟨rfl, b14⟩
    have T5 := Lib.hid ((T5.out.below b14).push a b)
    have BB := Lib.hid ((below_both BB.out b14).alloc (below_both BB.out b14).size (.cells #[.int .u64 a, .int .u64 b] 24))
    clear b14 c0 c1 x0 x1
    go_wp2_with fail
    refine (live2 _).mono ?_
    rintro e w15 ⟨rfl, b15⟩
    have T5 := Lib.hid (T5.out.below b15)
    have BB := Lib.hid (below_both BB.out b15)
    clear b15
    obtain ⟨a0, a1⟩ := T5.out.get w.heap.size a b (by simp)
    obtain ⟨c0, c1⟩ := T5.out.get w14.heap.size a b (by simp)
    obtain ⟨x0, x1⟩ := T5.out.get w10.heap.size 0 l (by simp)
    simp at x0
    go_wp2_with fail
    go_ret
    exact ⟨rfl, BB.out⟩
end Go.Proofs.Ytgpdghibkkgonaa
