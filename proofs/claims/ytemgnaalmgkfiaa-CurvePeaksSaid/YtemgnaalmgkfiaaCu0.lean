/-
  Numbers of two words by their values; curve's less.
-/
import Derived.Test.YtemgnaalmgkfiaaWid2
import Derived.Test.YtemgnaalmgkfiaaWid4
import Derived.Test.YtemgnaalmgkfiaaPut
import Derived.Test.YtemgnaalmgkfiaaSmLift
namespace Go.Proofs.Ytemgnaalmgkfiaa
open Go.RowKit
set_option linter.unusedVariables false
attribute [local go_sem ↓] Go.wp_at_zero Go.wp_at_succ

theorem nums_back {N : Nat} (h : N < w128) : wnum (whi N) (wlo N) = N := by rw [wnum_words, Nat.mod_eq_of_lt h]
theorem whi_word (N : Nat) : whi N ≤ 18446744073709551615 := by unfold whi; omega
theorem wlo_word (N : Nat) : wlo N ≤ 18446744073709551615 := by unfold wlo; omega
theorem tywide2 : RowTy 42 2 := ⟨⟨_, Try.underlying42, rfl⟩, by kernel_rfl⟩
theorem allocwide2 (W : World) : (Instr.alloc 42 true (.tuple #[])).run Try.prog W = .ok (.pointer (some ⟨W.heap.size, 0, none⟩)) (W.alloc (.cells [Value.int .u64 0, Value.int .u64 0].toArray 42)) := by
  simp [go_sem]
theorem less_nums (A B : Nat) (w : World) (hA : A < w128) (hB : B < w128) :
    Calls Try.prog 20 #[.agg #[.int .u64 (whi A : Nat), .int .u64 (wlo A : Nat)], .agg #[.int .u64 (whi B : Nat), .int .u64 (wlo B : Nat)]] w fun e w' => e = .returned (.bool (decide (A < B))) ∧ Below w.heap.size w w' := by
  by_cases h : A < B
  · rw [decide_eq_true h]
    exact less_yes _ _ _ _ w (wlo_word A) (wlo_word B) (by show wnum _ _ < wnum _ _; rw [nums_back hA, nums_back hB]; exact h)
  · rw [decide_eq_false h]
    exact less_no _ _ _ _ w (wlo_word A) (wlo_word B) (by show ¬ wnum _ _ < wnum _ _; rw [nums_back hA, nums_back hB]; exact h)
theorem add_nums (A B S : Nat) (w : World) (hA : A < w128) (hB : B < w128) (hS : S = A + B) :
    Calls Try.prog 18 #[.agg #[.int .u64 (whi A : Nat), .int .u64 (wlo A : Nat)], .agg #[.int .u64 (whi B : Nat), .int .u64 (wlo B : Nat)]] w fun e w' => e = .returned (.tuple #[.agg #[.int .u64 (whi S : Nat), .int .u64 (wlo S : Nat)], .bool (decide (w128 ≤ S))]) ∧ Below w.heap.size w w' :=
  add_raw _ _ _ _ S _ w (whi_word A) (wlo_word A) (whi_word B) (wlo_word B) (by show S = wnum _ _ + wnum _ _; rw [nums_back hA, nums_back hB]; exact hS) rfl
theorem sub_nums (A B S : Nat) (w : World) (hA : A < w128) (hB : B < w128) (hle : B ≤ A) (hS : S = A - B) :
    Calls Try.prog 45 #[.agg #[.int .u64 (whi A : Nat), .int .u64 (wlo A : Nat)], .agg #[.int .u64 (whi B : Nat), .int .u64 (wlo B : Nat)]] w fun e w' => e = .returned (.tuple #[.agg #[.int .u64 (whi S : Nat), .int .u64 (wlo S : Nat)], .bool false]) ∧ Below w.heap.size w w' := by
  have h := sub_raw _ _ _ _ (A + w128 - B) false w (whi_word A) (wlo_word A) (whi_word B) (wlo_word B) (by show _ = wnum _ _ + w128 - wnum _ _; rw [nums_back hA, nums_back hB]) (by show false = decide (wnum _ _ < wnum _ _); rw [nums_back hA, nums_back hB, decide_eq_false (by omega)])
  have e : A + w128 - B = S + w128 := by rw [hS]; omega
  have m : (S + w128) % w128 = S % w128 := Nat.add_mod_right _ _
  rw [e, ← (words_mod (S + w128)).1, ← (words_mod (S + w128)).2, m, (words_mod S).1, (words_mod S).2] at h
  exact h
theorem div_nums (A n : Nat) (w : World) (hA : A < w128) (hn : 0 < n) (hn2 : n ≤ 18446744073709551615) :
    Calls Try.prog 28 #[.agg #[.int .u64 (whi A : Nat), .int .u64 (wlo A : Nat)], .int .u64 n] w fun e w' =>
      e = .returned (.tuple #[.agg #[.int .u64 (whi (A / n) : Nat), .int .u64 (wlo (A / n) : Nat)], .int .u64 (A % n : Nat)]) ∧ Below w.heap.size w w' :=
  div_any _ _ n A w hn (nums_back hA).symm (whi_word A) (wlo_word A) hn2

set_option maxRecDepth 10000 in
theorem cless_words (a b c d x y : Nat) (t : Bool) (w : World)
    (CL : Hid (∀ w, Calls Try.prog 20 #[.agg #[.int .u64 a, .int .u64 b], .agg #[.int .u64 c, .int .u64 d]] w fun e w' => e = .returned (.bool t) ∧ Below w.heap.size w w'))
    (CS : Hid (t = false → ∀ w, Calls Try.prog 45 #[.agg #[.int .u64 a, .int .u64 b], .agg #[.int .u64 c, .int .u64 d]] w fun e w' => e = .returned (.tuple #[.agg #[.int .u64 x, .int .u64 y], .bool false]) ∧ Below w.heap.size w w'))
    (h0 : Hid (t = true → x = 0 ∧ y = 0)) :
    Calls Try.prog 39 #[.agg #[.int .u64 a, .int .u64 b], .agg #[.int .u64 c, .int .u64 d]] w fun e w' => e = .returned (.agg #[.int .u64 x, .int .u64 y]) ∧ Below w.heap.size w w' := by
  go_enter Try.func39, Try.ntmps39
  have K0 := Lib.hid (KV.three w 42 42 42 [.int .u64 a, .int .u64 b] [.int .u64 c, .int .u64 d] [.int .u64 0, .int .u64 0])
  have m0 := (K0.out.at 0 rfl).get 0
  have m1 := (K0.out.at 0 rfl).get 1
  have m2 := (K0.out.at 1 rfl).get 0
  have m3 := (K0.out.at 1 rfl).get 1
  simp at m0 m1 m2 m3
  go_wp2_with fail
  refine (CL.out _).mono ?_
  rintro e w1 ⟨rfl, b1⟩
  have K1 := Lib.hid (K0.out.below b1)
  clear b1 K0 m0 m1 m2 m3
  have m0 := (K1.out.at 0 rfl).get 0
  have m1 := (K1.out.at 0 rfl).get 1
  have m2 := (K1.out.at 1 rfl).get 0
  have m3 := (K1.out.at 1 rfl).get 1
  have f0 := (K1.out.at 2 rfl).frozen 0
  have f1 := (K1.out.at 2 rfl).frozen 1
  have r0 := (K1.out.at 2 rfl).get 0
  have r1 := (K1.out.at 2 rfl).get 1
  simp at m0 m1 m2 m3 r0 r1
  cases t with
  | true =>
    obtain ⟨rfl, rfl⟩ := h0.out rfl
    have K2 := Lib.hid (K1.out.store 2 rfl [.int .u64 0, .int .u64 0] rfl)
    have y0 : ((w1.setCell ⟨w.heap.size + 2, 0, none⟩ (.int .u64 0)).setCell ⟨w.heap.size + 2, 1, none⟩ (.int .u64 0)).cell? ⟨w.heap.size + 2, 0, none⟩ = some (.int .u64 0) := (K2.out.at 2 rfl).get 0
    have y1 : ((w1.setCell ⟨w.heap.size + 2, 0, none⟩ (.int .u64 0)).setCell ⟨w.heap.size + 2, 1, none⟩ (.int .u64 0)).cell? ⟨w.heap.size + 2, 1, none⟩ = some (.int .u64 0) := (K2.out.at 2 rfl).get 1
    go_wp2_with fail
    exact bodyPost_ret (v := .agg #[.int .u64 0, .int .u64 0]) (by simp [results, Try.results39, go_sem, y0, y1]) rfl ⟨rfl, K2.out.bel⟩
  | false =>
    have CS2 := Lib.hid (CS.out rfl)
    go_wp2_with fail
    refine (CS2.out _).mono ?_
    rintro e w2 ⟨rfl, b2⟩
    have K2 := Lib.hid ((K1.out.below b2).new 42 [.int .u64 x, .int .u64 y])
    clear b2 K1 m0 m1 m2 m3 f0 f1 r0 r1
    go_upto_region 4 with fail
    generalize w2.heap.size = g2 at *
    generalize w2.alloc (.cells #[.int .u64 (x : Int), .int .u64 (y : Int)] 42) = W at *
    have m0 := (K2.out.at 3 rfl).get 0
    have m1 := (K2.out.at 3 rfl).get 1
    have f0 := (K2.out.at 2 rfl).frozen 0
    have f1 := (K2.out.at 2 rfl).frozen 1
    have r0 := (K2.out.at 2 rfl).get 0
    have r1 := (K2.out.at 2 rfl).get 1
    simp at m0 m1 r0 r1
    have K3 := Lib.hid (K2.out.store 2 rfl [.int .u64 x, .int .u64 y] rfl)
    have y0 : ((W.setCell ⟨w.heap.size + 2, 0, none⟩ (.int .u64 x)).setCell ⟨w.heap.size + 2, 1, none⟩ (.int .u64 y)).cell? ⟨w.heap.size + 2, 0, none⟩ = some (.int .u64 x) := (K3.out.at 2 rfl).get 0
    have y1 : ((W.setCell ⟨w.heap.size + 2, 0, none⟩ (.int .u64 x)).setCell ⟨w.heap.size + 2, 1, none⟩ (.int .u64 y)).cell? ⟨w.heap.size + 2, 1, none⟩ = some (.int .u64 y) := (K3.out.at 2 rfl).get 1
    go_wp2_with fail
    exact bodyPost_ret (v := .agg #[.int .u64 x, .int .u64 y]) (by simp [results, Try.results39, go_sem, y0, y1]) rfl ⟨rfl, K3.out.bel⟩
theorem cless_any (A B : Nat) (w : World) (hA : A < w128) (hB : B < w128) :
    Calls Try.prog 39 #[.agg #[.int .u64 (whi A : Nat), .int .u64 (wlo A : Nat)], .agg #[.int .u64 (whi B : Nat), .int .u64 (wlo B : Nat)]] w fun e w' => e = .returned (.agg #[.int .u64 (whi (A - B) : Nat), .int .u64 (wlo (A - B) : Nat)]) ∧ Below w.heap.size w w' := by
  refine cless_words _ _ _ _ _ _ (decide (A < B)) w (fun w => less_nums A B w hA hB) (fun h w => sub_nums A B _ w hA hB (by have := of_decide_eq_false h; omega) rfl) (fun h => ?_)
  have := of_decide_eq_true h
  rw [show A - B = 0 by omega]
  exact ⟨rfl, rfl⟩
end Go.Proofs.Ytemgnaalmgkfiaa
