/-
  Plain facts for the walk of the statement WholeDrops.
-/
import Derived.Test.YtmgjaghmnnipbaaBk1
import Derived.Test.YtmgjaghmnnipbaaPairs
import Derived.Deep.RegionWith
namespace Go.Proofs.Ytmgjaghmnnipbaa
open Go.RowKit
set_option linter.unusedVariables false
attribute [local go_sem ↓] Go.wp_at_zero Go.wp_at_succ

theorem one_u32 : OneTy 46 := fun w => by simp [isAgg, run_underlying Try.underlying46, go_sem]
/-- A cell of the world, in each world of a class. -/
theorem quietAt_at {C : World → Prop} {o : Oper} {a : Act} {W : World} {t : TypeId} {x : Operand} {p : Addr} {v : Value} (ho : o.op = .load t x) (hx : a.eval x = .pointer (some p)) (ht : OneTy t) (hc : W.cell? p = some v) :
    Oper.quietAt Try.prog o a C W v := by
  have hload : (Instr.loadAt t (.pointer (some p))).run Try.prog W = .ok v W := by
    simp [Instr.loadAt, Instr.sureAddr, loadVar, go_sem, ht W, hc]
  unfold Oper.quietAt execOp
  simp only [ho, hx, Sem.run_bind, Sem.run_pure, hload, Result.andThen_ok]
  exact ⟨rfl, rfl⟩
theorem nat_u32w {z : Int} (h : (Lit.int .u32 z).wf = true) : ∃ n : Nat, z = (n : Int) ∧ n ≤ 4294967295 := by
  simp [Lit.wf, IntKind.min, IntKind.max, IntKind.signed, IntKind.bits] at h
  obtain ⟨n, rfl⟩ := Int.eq_ofNat_of_zero_le h.1
  exact ⟨n, rfl, by omega⟩
theorem mul_32 {x y : Nat} (hx : x ≤ 4294967295) (hy : y ≤ 4294967295) : x * y ≤ 18446744065119617025 := by
  have := Nat.mul_le_mul hx hy
  omega
/-- Adding two numbers given by their words. -/
theorem add_nums (A B S : Nat) (w : World) (hA : A < w128) (hB : B < w128) (hS : A + B = S) (hS2 : S < w128) :
    Calls Try.prog 19 #[.agg #[.int .u64 (whi A), .int .u64 (wlo A)], .agg #[.int .u64 (whi B), .int .u64 (wlo B)]] w fun e w' => e = .returned (.tuple #[.agg #[.int .u64 (whi S), .int .u64 (wlo S)], .bool false]) ∧ Below w.heap.size w w' :=
  add_raw (whi A) (wlo A) (whi B) (wlo B) S false w (whi_le A) (wlo_le A) (whi_le B) (wlo_le B) (by rw [← words_back hA, ← words_back hB]; exact hS.symm) (decide_eq_false (by omega)).symm
theorem sub_nums (A B S : Nat) (w : World) (hA : A < w128) (hB : B ≤ A) (hS : A = B + S) :
    Calls Try.prog 20 #[.agg #[.int .u64 (whi A), .int .u64 (wlo A)], .agg #[.int .u64 (whi B), .int .u64 (wlo B)]] w fun e w' => e = .returned (.tuple #[.agg #[.int .u64 (whi S), .int .u64 (wlo S)], .bool false]) ∧ Below w.heap.size w w' := by
  have hB2 : B < w128 := by omega
  have h := sub_raw (whi A) (wlo A) (whi B) (wlo B) (S + w128) false w (whi_le A) (wlo_le A) (whi_le B) (wlo_le B) (by rw [← words_back hA, ← words_back hB2]; show _ = _; omega) (by rw [← words_back hA, ← words_back hB2]; exact (decide_eq_false (by omega)).symm)
  rw [show whi (S + w128) = whi S by rw [← (words_mod (S + w128)).1, Nat.add_mod_right, (words_mod S).1], show wlo (S + w128) = wlo S by rw [← (words_mod (S + w128)).2, Nat.add_mod_right, (words_mod S).2]] at h
  exact h
theorem of_nums (n : Nat) (w : World) (hn : n ≤ 18446744073709551615) : Calls Try.prog 21 #[.int .u64 n] w fun e w' => e = .returned (.agg #[.int .u64 (whi n), .int .u64 (wlo n)]) ∧ Below w.heap.size w w' := by
  have h := of_any n w
  rw [show whi n = 0 from whi_small (by omega), show wlo n = n from Nat.mod_eq_of_lt (by omega)]
  exact h
theorem u32_wrap {x : Nat} (h : x ≤ 4294967295) : IntKind.u64.wrap (x : Int) = (x : Int) := by rw [IntKind.wrap_u64]; omega
theorem rem_3000 {x z : Nat} (h : z = x % 3000) : (x : Int).tmod 3000 = (z : Int) := by
  rw [Int.tmod_eq_emod_of_nonneg (Int.natCast_nonneg x)]
  omega
theorem z_wrap {z : Nat} (h : z < 3000) : wrap64 (z : Int) = (z : Int) ∧ IntKind.i64.wrap (z : Int) = (z : Int) := ⟨by unfold wrap64; omega, IntWalk.i64_in _ ⟨by omega, by omega⟩⟩
theorem drop_meas {N k : Nat} (h : k < N) : N - (intOf (.int .i64 ((k + 1 : Nat) : Int))).toNat < N - (intOf (.int .i64 (k : Int))).toNat := by
  simp [intOf]
  omega
theorem k_next {k : Nat} (h : k < 100) : wrap64 ((k : Int) + 1) = ((k + 1 : Nat) : Int) := by unfold wrap64; omega
/-- What a round of the balance makes of a level, what came in, and what went out. -/
structure DropIs (R k n I O : Nat) : Prop where
  nle : n ≤ R
  io : I = n + O
  le : I ≤ 4611686018427387904 + k * 18446744073709551616
theorem DropIs.w {R k n I O : Nat} (h : DropIs R k n I O) (hk : k ≤ 100) : I < w128 ∧ O < w128 ∧ n < w128 := by
  have h1 := h.le
  have h2 := h.io
  have h3 := Nat.mul_le_mul_right 18446744073709551616 hk
  unfold w128
  omega
theorem DropIs.step {R k n I O x y m d : Nat} {t : Bool} (h : DropIs R k n I O) (hR : R < 4611686018427387904) (hx : x ≤ 4294967295) (hy : y ≤ 4294967295) (ht : t = decide (d ≤ n + bkPut n R (x * y))) (hm : m = if t = true then n + bkPut n R (x * y) - d else n + bkPut n R (x * y)) :
    DropIs R (k + 1) m (I + x * y) (O + (x * y - bkPut n R (x * y)) + if t = true then d else 0) := by
  have hp := bkPut_le n R (x * y)
  have hxy := mul_32 hx hy
  have h1 := h.nle
  have h2 := h.io
  have h3 := h.le
  rw [hm, ht]
  generalize bkPut n R (x * y) = p at *
  generalize x * y = G at *
  by_cases hd : d ≤ n + p
  · rw [decide_eq_true hd, if_pos rfl, if_pos rfl]
    exact ⟨by omega, by omega, by omega⟩
  · rw [decide_eq_false hd]
    simp only [Bool.false_eq_true, if_false]
    exact ⟨by omega, by omega, by omega⟩

theorem drop_facts {R k n I O x y : Nat} (h : DropIs R k n I O) (hR : R < 4611686018427387904) (hk : k + 1 ≤ 100) (hx : x ≤ 4294967295) (hy : y ≤ 4294967295) : ∃ (q s G z d m J O1 O2 : Nat) (t : Bool),
    (q = n + bkPut n R (x * y) ∧ s = x * y - bkPut n R (x * y) ∧ G = x * y) ∧ (z = x % 3000 ∧ (z : Int) ≤ 9223372036854775807 ∧ z < 3000) ∧ (d = bkN (z : Int) ∧ true = bkIs (z : Int) ∧ t = bkCan q (z : Int) ∧ m = bkLeft q (z : Int)) ∧
    (I + G = J ∧ O + s = O1 ∧ (t = true → O1 + d = O2) ∧ (t = false → O2 = O1)) ∧ (I < w128 ∧ O < w128 ∧ G < w128 ∧ s < w128 ∧ d < w128 ∧ J < w128 ∧ O1 < w128 ∧ O2 < w128) ∧ (n ≤ 18446744073709551615 ∧ q ≤ 18446744073709551615 ∧ d ≤ 18446744073709551615) ∧
    ((t = true → (d : Int) ≤ (q : Int)) ∧ (t = false → ¬ (d : Int) ≤ (q : Int))) ∧ DropIs R (k + 1) m J O2 := by
  have hp := bkPut_le n R (x * y)
  have hxy := mul_32 hx hy
  have h1 := h.nle
  have hz : x % 3000 < 3000 := Nat.mod_lt _ (by decide)
  obtain ⟨z, hze⟩ : ∃ z, z = x % 3000 := ⟨_, rfl⟩
  rw [← hze] at hz
  obtain ⟨d, hd⟩ : ∃ d, d = 1000000000 * z := ⟨_, rfl⟩
  have hb : d < 18446744073709551616 := by omega
  have h2 := bkneed_near (n := z) (whi_small (by rw [← hd]; exact hb)) (by omega)
  have hdN : d = bkN (z : Int) := by
    rw [h2.1, ← hd]
    exact (Nat.mod_eq_of_lt hb).symm
  obtain ⟨q, hq⟩ : ∃ q, q = n + bkPut n R (x * y) := ⟨_, rfl⟩
  obtain ⟨s, hs⟩ : ∃ s, s = x * y - bkPut n R (x * y) := ⟨_, rfl⟩
  obtain ⟨t, ht⟩ : ∃ t, t = decide (d ≤ q) := ⟨_, rfl⟩
  obtain ⟨m, hm⟩ : ∃ m, m = if t = true then q - d else q := ⟨_, rfl⟩
  have htC : t = bkCan q (z : Int) := by unfold bkCan; rw [h2.2, ← hdN, ht]; rfl
  have hmL : m = bkLeft q (z : Int) := by unfold bkLeft; rw [← htC, ← hdN]; exact hm
  have hS := h.step (d := d) (t := t) (m := m) hR hx hy (by rw [ht, hq]) (by rw [hm, hq])
  rw [← hs] at hS
  have hw1 := h.w (k := k) (by omega)
  have hw2 := hS.w hk
  have hO1 : O + s ≤ O + s + if t = true then d else 0 := Nat.le_add_right _ _
  have hq64 : q ≤ 18446744073709551615 := by omega
  refine ⟨q, s, x * y, z, d, m, I + x * y, O + s, O + s + if t = true then d else 0, t, ⟨hq, hs, rfl⟩, ⟨hze, by omega, hz⟩, ⟨hdN, h2.2.symm, htC, hmL⟩, ⟨rfl, rfl, fun e => by rw [if_pos e], fun e => by rw [e]; rfl⟩, ⟨hw1.1, hw1.2.1, by unfold w128; omega, by unfold w128; omega, by unfold w128; omega, hw2.1, Nat.lt_of_le_of_lt hO1 hw2.2.1, hw2.2.1⟩, ⟨by omega, hq64, by omega⟩, ⟨fun e => ?_, fun e => ?_⟩, hS⟩
  · rw [e] at ht; have := of_decide_eq_true ht.symm; omega
  · rw [e] at ht; have := of_decide_eq_false ht.symm; omega

end Go.Proofs.Ytmgjaghmnnipbaa
