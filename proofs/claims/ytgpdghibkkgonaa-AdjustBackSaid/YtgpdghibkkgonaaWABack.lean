/-
  The walk of the statement AdjustBack.
-/
import Derived.Test.YtgpdghibkkgonaaLive4
import Derived.Test.YtgpdghibkkgonaaWSums
namespace Go.Proofs.Ytgpdghibkkgonaa
open Go.RowKit
set_option linter.unusedVariables false

theorem word_back {c o n : Nat} (hc : c ≤ 65535) (ho : o ≤ 65535) (hn : n ≤ 65535) : oclean (oword (oword c o n) n o) = oclean c := by
  unfold oword
  have e1 := orest_le (65535 - c + (65535 - o) + n)
  have e2 := orest_mod (65535 - c + (65535 - o) + n)
  have e3 := orest_null (65535 - c + (65535 - o) + n)
  generalize orest (65535 - c + (65535 - o) + n) = r at *
  have f1 := orest_le (65535 - (65535 - r) + (65535 - n) + o)
  have f2 := orest_mod (65535 - (65535 - r) + (65535 - n) + o)
  have f3 := orest_null (65535 - (65535 - r) + (65535 - n) + o)
  generalize orest (65535 - (65535 - r) + (65535 - n) + o) = s at *
  unfold oclean
  split <;> split <;> omega
theorem word_swap {c o n p m : Nat} (hc : c ≤ 65535) (ho : o ≤ 65535) (hn : n ≤ 65535) (hp : p ≤ 65535) (hm : m ≤ 65535) : oclean (oword (oword c o n) p m) = oclean (oword (oword c p m) o n) := by
  unfold oword
  have e1 := orest_le (65535 - c + (65535 - o) + n)
  have e2 := orest_mod (65535 - c + (65535 - o) + n)
  have e3 := orest_null (65535 - c + (65535 - o) + n)
  generalize orest (65535 - c + (65535 - o) + n) = r at *
  have d1 := orest_le (65535 - c + (65535 - p) + m)
  have d2 := orest_mod (65535 - c + (65535 - p) + m)
  have d3 := orest_null (65535 - c + (65535 - p) + m)
  generalize orest (65535 - c + (65535 - p) + m) = q at *
  have f1 := orest_le (65535 - (65535 - r) + (65535 - p) + m)
  have f2 := orest_mod (65535 - (65535 - r) + (65535 - p) + m)
  have f3 := orest_null (65535 - (65535 - r) + (65535 - p) + m)
  generalize orest (65535 - (65535 - r) + (65535 - p) + m) = s at *
  have g1 := orest_le (65535 - (65535 - q) + (65535 - o) + n)
  have g2 := orest_mod (65535 - (65535 - q) + (65535 - o) + n)
  have g3 := orest_null (65535 - (65535 - q) + (65535 - o) + n)
  generalize orest (65535 - (65535 - q) + (65535 - o) + n) = t at *
  unfold oclean
  split <;> split <;> omega
theorem owordsTo_two (c a b x y : Nat) : owordsTo c [a, b] [x, y] 2 = oword (oword c a x) b y := rfl
theorem row16_two (w : World) (x y : Nat) (hx : x ≤ 65535) (hy : y ≤ 65535) : Row16 (w.alloc (.cells #[.int .u16 x, .int .u16 y] 37)) (some ⟨w.heap.size, 0, none⟩) 2 [x, y] :=
  Row16.mk rfl (by simp; omega) fun i hi => by
    rw [Nat.zero_add, cell_of_row _ w.heap.size i _ _ _ (heap_alloc_new w _)]
    match i, hi with
    | 0, _ => rfl
    | 1, _ => rfl
/-- Words of two words, each in its place. -/
theorem words_two (c a b x y : Nat) (w : World) (hc : c ≤ 65535) (ha : a ≤ 65535) (hb : b ≤ 65535) (hx : x ≤ 65535) (hy : y ≤ 65535) :
    Calls Try.prog 42 #[.int .u16 c, .slice (some ⟨w.heap.size, 0, none⟩) 2 2, .slice (some ⟨w.heap.size + 1, 0, none⟩) 2 2] ((w.alloc (.cells #[.int .u16 a, .int .u16 b] 37)).alloc (.cells #[.int .u16 x, .int .u16 y] 37))
      fun e w' => e = .returned (.tuple #[.int .u16 (oword (oword c a x) b y : Nat), .int .i64 0]) ∧ Below w.heap.size w w' := by
  have h1 := (row16_two w a b ha hb).alloc (.cells #[.int .u16 x, .int .u16 y] 37)
  have h2 := row16_two (w.alloc (.cells #[.int .u16 a, .int .u16 b] 37)) x y hx hy
  rw [World.size_alloc] at h2
  refine (words_ok _ _ 2 2 2 c [a, b] [x, y] _ (by decide) hc h1 h2).mono ?_
  rintro e w' ⟨rfl, hb'⟩
  exact ⟨rfl, below_al2 hb'⟩

set_option maxRecDepth 10000 in
set_option maxHeartbeats 1600000 in
theorem walk_AdjustBack (c : Nat) (zs1 zs2 : List Int) (w : World) (hc : c ≤ 65535) (hn1 : zs1.length = 2) (hz1 : ∀ z ∈ zs1, (Lit.int .u16 z).wf = true) (hn2 : zs2.length = 2) (hz2 : ∀ z ∈ zs2, (Lit.int .u16 z).wf = true) :
    Calls Try.prog 12 #[.int .u16 c, .agg (zs1.map (Value.int .u16)).toArray, .agg (zs2.map (Value.int .u16)).toArray] w fun e w' => e = .returned (.bool true) ∧ Below w.heap.size w w' := by
  obtain ⟨z1, z2, rfl⟩ := two_ints hn1
  obtain ⟨z3, z4, rfl⟩ := two_ints hn2
  obtain ⟨a, rfl, ha⟩ := nat_u16 (hz1 _ (List.mem_cons_self ..))
  obtain ⟨b, rfl, hb⟩ := nat_u16 (hz1 _ (List.mem_cons_of_mem _ (List.mem_cons_self ..)))
  obtain ⟨x, rfl, hx⟩ := nat_u16 (hz2 _ (List.mem_cons_self ..))
  obtain ⟨y, rfl, hy⟩ := nat_u16 (hz2 _ (List.mem_cons_of_mem _ (List.mem_cons_self ..)))
  obtain ⟨k, hk⟩ : ∃ k, k = oword c a x := ⟨_, rfl⟩
  obtain ⟨l, hl⟩ : ∃ l, l = oword k x a := ⟨_, rfl⟩
  obtain ⟨p, hp⟩ : ∃ p, p = oword (oword c a x) b y := ⟨_, rfl⟩
  obtain ⟨q, hq⟩ : ∃ q, q = oword (oword c b y) a x := ⟨_, rfl⟩
  have hkl : k ≤ 65535 := by rw [hk]; exact oword_le _ _ _
  have hll : l ≤ 65535 := by rw [hl]; exact oword_le _ _ _
  have hpl : p ≤ 65535 := by rw [hp]; exact oword_le _ _ _
  have hql : q ≤ 65535 := by rw [hq]; exact oword_le _ _ _
  obtain ⟨r, hr⟩ : ∃ r, r = oclean c := ⟨_, rfl⟩
  obtain ⟨s, hs⟩ : ∃ s, s = oclean p := ⟨_, rfl⟩
  have hlc : oclean l = r := by rw [hl, hk, hr]; exact word_back hc ha hx
  have hqs : oclean q = s := by rw [hq, hs, hp]; exact word_swap hc hb hy ha hx
  have C1 : Hid (∀ w, Calls Try.prog 46 #[.int .u16 c, .int .u16 a, .int .u16 x] w fun e w' => e = .returned (.int .u16 k) ∧ Below w.heap.size w w') := by
    rw [hk]; exact fun w => word_any c a x w hc ha hx
  have C2 : Hid (∀ w, Calls Try.prog 46 #[.int .u16 k, .int .u16 x, .int .u16 a] w fun e w' => e = .returned (.int .u16 l) ∧ Below w.heap.size w w') := by
    rw [hl]; exact fun w => word_any k x a w hkl hx ha
  have C3 : Hid (∀ w : World, Calls Try.prog 42 #[.int .u16 c, .slice (some ⟨w.heap.size, 0, none⟩) 2 2, .slice (some ⟨w.heap.size + 1, 0, none⟩) 2 2] ((w.alloc (.cells #[.int .u16 a, .int .u16 b] 37)).alloc (.cells #[.int .u16 x, .int .u16 y] 37))
      fun e w' => e = .returned (.tuple #[.int .u16 p, .int .i64 0]) ∧ Below w.heap.size w w') := by
    rw [hp]; exact fun w => words_two c a b x y w hc ha hb hx hy
  have C4 : Hid (∀ w : World, Calls Try.prog 42 #[.int .u16 c, .slice (some ⟨w.heap.size, 0, none⟩) 2 2, .slice (some ⟨w.heap.size + 1, 0, none⟩) 2 2] ((w.alloc (.cells #[.int .u16 b, .int .u16 a] 37)).alloc (.cells #[.int .u16 y, .int .u16 x] 37))
      fun e w' => e = .returned (.tuple #[.int .u16 q, .int .i64 0]) ∧ Below w.heap.size w w') := by
    rw [hq]; exact fun w => words_two c b a y x w hc hb ha hy hx
  have D1 : Hid (∀ w, Calls Try.prog 44 #[.int .u16 l] w fun e w' => e = .returned (.int .u16 r) ∧ w = w') := by rw [← hlc]; exact fun w => clean_any l w hll
  have D2 : Hid (∀ w, Calls Try.prog 44 #[.int .u16 c] w fun e w' => e = .returned (.int .u16 r) ∧ w = w') := by rw [hr]; exact fun w => clean_any c w hc
  have D3 : Hid (∀ w, Calls Try.prog 44 #[.int .u16 p] w fun e w' => e = .returned (.int .u16 s) ∧ w = w') := by rw [hs]; exact fun w => clean_any p w hpl
  have D4 : Hid (∀ w, Calls Try.prog 44 #[.int .u16 q] w fun e w' => e = .returned (.int .u16 s) ∧ w = w') := by rw [← hqs]; exact fun w => clean_any q w hql
  clear hk hl hp hq hr hs hlc hqs hz1 hz2 hn1 hn2
  have S1 : Hid (Duo ((w.alloc (.cells #[.int .u16 a, .int .u16 b] 38)).alloc (.cells #[.int .u16 x, .int .u16 y] 38)) w.heap.size a b) := (Duo.new w a b).below ((Below.refl _ _).alloc (Nat.le_refl _) _)
  have S2 : Hid (Duo ((w.alloc (.cells #[.int .u16 a, .int .u16 b] 38)).alloc (.cells #[.int .u16 x, .int .u16 y] 38)) (w.heap.size + 1) x y) := by
    have h := Duo.new (w.alloc (.cells #[.int .u16 a, .int .u16 b] 38)) x y
    rw [World.size_alloc] at h
    exact h
  have BB := Lib.hid (below_laid2 w (.cells #[.int .u16 a, .int .u16 b] 38) (.cells #[.int .u16 x, .int .u16 y] 38))
  show Calls Try.prog 12 #[.int .u16 c, .agg #[.int .u16 a, .int .u16 b], .agg #[.int .u16 x, .int .u16 y]] w fun e w' => e = .returned (.bool true) ∧ Below w.heap.size w w'
  obtain ⟨a0, a1⟩ := S1.out
  obtain ⟨x0, x1⟩ := S2.out
  go_enter Try.func12, Try.ntmps12
  go_wp2_with fail
  refine (C1.out _).mono ?_
  rintro e w1 ⟨rfl, b1⟩
  have S1 := Lib.hid (S1.out.below b1)
  have S2 := Lib.hid (S2.out.below b1)
  have BB := Lib.hid (below_both BB.out b1)
  clear b1 a0 a1 x0 x1
  obtain ⟨a0, a1⟩ := S1.out
  obtain ⟨x0, x1⟩ := S2.out
  go_wp2_with fail
  refine (C2.out _).mono ?_
  rintro e w2 ⟨rfl, b2⟩
  have S1 := Lib.hid (S1.out.below b2)
  have S2 := Lib.hid (S2.out.below b2)
  have BB := Lib.hid (below_both BB.out b2)
  clear b2 a0 a1 x0 x1
  obtain ⟨a0, a1⟩ := S1.out
  obtain ⟨x0, x1⟩ := S2.out
  have y0 := (S2.out.below ((Below.refl _ _).alloc (Nat.le_refl _) (.cells #[.int .u16 a, .int .u16 b] 37))).1
  have y1 := (S2.out.below ((Below.refl _ _).alloc (Nat.le_refl _) (.cells #[.int .u16 a, .int .u16 b] 37))).2
  go_wp2_with fail
  refine (C3.out _).mono ?_
  rintro e w3 ⟨rfl, b3⟩
  have S1 := Lib.hid (S1.out.below b3)
  have S2 := Lib.hid (S2.out.below b3)
  have BB := Lib.hid (below_both BB.out b3)
  clear b3 a0 a1 x0 x1 y0 y1
  obtain ⟨a0, a1⟩ := S1.out
  obtain ⟨x0, x1⟩ := S2.out
  have y0 := (S2.out.below ((Below.refl _ _).alloc (Nat.le_refl _) (.cells #[.int .u16 b, .int .u16 a] 37))).1
  have y1 := (S2.out.below ((Below.refl _ _).alloc (Nat.le_refl _) (.cells #[.int .u16 b, .int .u16 a] 37))).2
  go_wp2_with fail
  refine (C4.out _).mono ?_
  rintro e w4 ⟨rfl, b4⟩
  have BB := Lib.hid (below_both BB.out b4)
  clear b4 a0 a1 x0 x1 y0 y1 S1 S2
  go_wp2_with fail
  refine (live4 _).mono ?_
  rintro e w5 ⟨rfl, b5⟩
  have BB := Lib.hid (below_both BB.out b5)
  clear b5
  go_wp2_with fail
  refine (D1.out _).mono ?_
  rintro e w' ⟨rfl, rfl⟩
  go_wp2_with fail
  refine (D2.out _).mono ?_
  rintro e w' ⟨rfl, rfl⟩
  go_wp2_with fail
  refine (D3.out _).mono ?_
  rintro e w' ⟨rfl, rfl⟩
  go_wp2_with fail
  refine (D4.out _).mono ?_
  rintro e w' ⟨rfl, rfl⟩
  go_wp2_with fail
  go_ret
  exact ⟨rfl, BB.out⟩
end Go.Proofs.Ytgpdghibkkgonaa
