/-
  From the prefix of all, half by half, to an address (plain facts, for WholeNets; nothing is claimed of the program here).
-/
import Derived.Test.YtaicmadeobglfaaDoorPfBack
namespace Go.Proofs.YtaicmadeobglfaaDoor
open Go.RowKit Go.Lib
set_option linter.unusedVariables false

theorem net_pf {V : Int} {M m : Nat} (hv : V = 4 ∧ M = 32 ∨ V = 6 ∧ M = 128) (A : List Nat) (h : m ≤ M) : Pf V M m (keepB A m) := ⟨hv, h, keep_keep A (Nat.le_refl m)⟩
structure Net (V : Int) (M m : Nat) (A X Y N : List Nat) : Prop where
  aX : Adr X
  aY : Adr Y
  aN : Adr N
  half : phalfB V X (m : Nat) = true
  low : plow V X (m : Nat) = pcells V X ((m + 1 : Nat) : Int)
  high : phigh V X (m : Nat) = pcells V Y ((m + 1 : Nat) : Int)
  one : (phas V X ((m + 1 : Nat) : Int) V A = true ∧ phas V Y ((m + 1 : Nat) : Int) V A = false ∧ N = X) ∨ (phas V X ((m + 1 : Nat) : Int) V A = false ∧ phas V Y ((m + 1 : Nat) : Int) V A = true ∧ N = Y)
  inn : pwithin V N ((m + 1 : Nat) : Int) V X (m : Nat) = true
  out : pwithin V X (m : Nat) V N ((m + 1 : Nat) : Int) = false
  text : pparse (pprint V N ((m + 1 : Nat) : Int)).data.toList = (pcells V N ((m + 1 : Nat) : Int), 0)
  size : (pprint V N ((m + 1 : Nat) : Int)).size < 4294967000
theorem net_step {V : Int} {M m : Nat} {A X Y N : List Nat} (hv : V = 4 ∧ M = 32 ∨ V = 6 ∧ M = 128) (hA : Adr A) (hlt : m < M) (hX : X = keepB A m) (hY : Y = highB X m) (hN : N = keepB A (m + 1)) : Net V M m A X Y N := by
  have hP : Pf V M m X := hX ▸ net_pf hv A (Nat.le_of_lt hlt)
  have h128 : m < 128 := by have := hP.m128; omega
  have hH : Pf V M (m + 1) Y := hY ▸ hP.high hlt
  have hL := hP.low hlt
  have hQ : Pf V M (m + 1) N := hN ▸ net_pf hv A hlt
  have hb : phalfB V X (m : Nat) = true := by
    unfold phalfB
    rw [hP.check, hP.sz]
    have : ¬ ((m : Int) = (M : Int)) := by omega
    simp [this]
  have hone := hP.one_half hlt A
  rw [← hY] at hone
  have hin : phas V X (m : Nat) V A = true := by rw [hP.has, decide_eq_true hX.symm]
  have hXY := hP.apart hlt
  rw [← hY] at hXY
  refine ⟨hP.adr, hH.adr, hQ.adr, hb, ?_, ?_, ?_, ?_, ?_, ?_, Pf.size hQ.adr (by omega)⟩
  · unfold plow
    rw [hb, if_pos rfl]
    rfl
  · unfold phigh
    rw [hb, if_pos rfl, Int.toNat_natCast, ← hY]
    rfl
  · rcases hone with ⟨_, h1, h2⟩ | ⟨_, h1, h2⟩ | ⟨h0, _⟩
    · refine .inl ⟨h1, h2, ?_⟩
      rw [hL.has] at h1
      rw [hN]
      exact of_decide_eq_true h1
    · refine .inr ⟨h1, h2, ?_⟩
      rw [hH.has] at h2
      rw [hN]
      exact of_decide_eq_true h2
    · rw [hin] at h0; cases h0
  · rw [hP.within hQ, decide_eq_true (Nat.le_succ m), hN, keep_keep A (Nat.le_succ m), hX, decide_eq_true rfl]
    rfl
  · rw [hQ.within hP, decide_eq_false (by omega)]
    rfl
  · rw [hN]
    exact Pf.parse (A := A) (hN ▸ hQ)
theorem net_end {V : Int} {M : Nat} {A X : List Nat} (hv : V = 4 ∧ M = 32 ∨ V = 6 ∧ M = 128) (hA : Adr A) (hX : X = keepB A M) :
    Adr X ∧ phalfB V X (M : Nat) = false ∧ plow V X (M : Nat) = pcells 0 zero16 0 ∧ phigh V X (M : Nat) = pcells 0 zero16 0 ∧ plast V X (M : Nat) = X ∧ X.take 4 = A.take 4 ∧ (V = 6 → X = A) := by
  have hP : Pf V M M X := hX ▸ net_pf hv A (Nat.le_refl M)
  have hb : phalfB V X (M : Nat) = false := by
    unfold phalfB
    rw [hP.check, hP.sz]
    simp
  refine ⟨hP.adr, hb, ?_, ?_, ?_, ?_, ?_⟩
  · unfold plow
    rw [hb]
    rfl
  · unfold phigh
    rw [hb]
    rfl
  · rw [hP.last]
    exact fillB_none hP.adr _
  · apply List.ext_getElem?
    intro i
    rw [List.getElem?_take, List.getElem?_take]
    split
    · rename_i hi
      rw [hX, keepB_get A M i (by omega), List.getElem?_eq_getElem (by rw [hA.len]; omega)]
      have e : onb M i = 255 := by
        have h4 : i = 0 ∨ i = 1 ∨ i = 2 ∨ i = 3 := by omega
        rcases hv with ⟨_, rfl⟩ | ⟨_, rfl⟩ <;> rcases h4 with rfl | rfl | rfl | rfl <;> decide
      rw [e]
      have hlt := hA.at i
      have e2 : A.getD i 0 = A[i]'(by rw [hA.len]; omega) := by rw [List.getD_eq_getElem?_getD, List.getElem?_eq_getElem (by rw [hA.len]; omega)]; rfl
      rw [e2] at hlt ⊢
      congr 1
      generalize A[i]'(by rw [hA.len]; omega) = x at *
      exact Nat.and_two_pow_sub_one_of_lt_two_pow (n := 8) (by omega)
    · rfl
  · intro h6
    have hM : M = 128 := by rcases hv with ⟨h, _⟩ | ⟨_, h⟩; omega; exact h
    rw [hX, hM]
    refine (keepB_adr _).ext hA fun i hi => ?_
    rw [keepB_bt _ _ i hi]
    simp [hi]
end Go.Proofs.YtaicmadeobglfaaDoor
