/-
  The contract of extwalk's count.
-/
import Derived.Test.YtlopmkmcjcijcaaEw4
namespace Go.Proofs.Ytlopmkmcjcijcaa
open Go.RowKit
set_option linter.unusedVariables false

/-- What the second byte of a header with such a body must be, from i on. -/
def exCountF (u : Nat) (x : Int) : Nat → Nat → Option Nat
  | 0, _ => none
  | f + 1, i => if (i : Int) * (u : Int) = x then some i else exCountF u x f (i + 1)
def exCount (k : Int) (len : Nat) : Option Nat := exCountF (exUnit k) ((len : Int) - 6) 256 0
theorem count_len {n : Nat} (h : n ≤ 140737488355328) : wrap64 ((n : Int) + 2) = (n : Int) + 2 ∧ wrap64 ((n : Int) + 2 - 8) = (n : Int) - 6 := by
  have h1 : (n : Int) + 2 - 8 = (n : Int) - 6 := by omega
  have h2 := IntWalk.i64_in ((n : Int) + 2) ⟨by omega, by omega⟩
  have h3 := IntWalk.i64_in ((n : Int) - 6) ⟨by omega, by omega⟩
  rw [IntKind.wrap_i64] at h2 h3
  rw [h1]
  unfold wrap64
  exact ⟨h2, h3⟩
theorem count_mul {i u : Nat} (hi : i < 256) (hu : u ≤ 8) : wrap64 ((i : Int) * (u : Int)) = (i : Int) * (u : Int) := by
  have h : i * u ≤ 256 * 8 := Nat.mul_le_mul (by omega) hu
  have e : (i : Int) * (u : Int) = ((i * u : Nat) : Int) := by simp
  rw [e]
  exact w64_in (by omega) (by omega)
theorem count_fuel {i f : Nat} (h : i + f = 256) (hi : i < 256) : ∃ f2, f = f2 + 1 ∧ i + 1 + f2 = 256 := ⟨f - 1, by omega, by omega⟩
theorem tyext2 : RowTy 45 2 := ⟨⟨_, Try.underlying45, rfl⟩, by kernel_rfl⟩
set_option maxRecDepth 10000 in
set_option maxHeartbeats 3200000 in
theorem excount_any (k : Int) (A : Option Addr) (n c : Nat) (w : World) (hn : n ≤ 140737488355328) :
    Calls Try.prog 60 #[.agg #[.int .i64 k, .slice A n c]] w fun e w' => e = .returned (.tuple #[.int .i64 ((exCount k n).getD 0 : Nat), .bool (exCount k n).isSome]) ∧ Below w.heap.size w w' := by
  have CU := Lib.hid (exunit_any k)
  have hu := exUnit_le k
  obtain ⟨e1, e2⟩ := count_len hn
  obtain ⟨x, hx⟩ : ∃ x, x = (n : Int) - 6 := ⟨_, rfl⟩
  have HC : Hid (exCount k n = exCountF (exUnit k) x 256 0) := by show _ = _; rw [hx]; rfl
  rw [← hx] at e2
  obtain ⟨r, hr⟩ : ∃ r, r = exCount k n := ⟨_, rfl⟩
  rw [← hr] at HC ⊢
  generalize exUnit k = u at *
  obtain ⟨V, eV⟩ : ∃ V, V = w.alloc (.cells #[.int .i64 k, .slice A n c] 45) := ⟨_, rfl⟩
  have hA : ArrV 45 V w.heap.size [.int .i64 k, .slice A n c] := by rw [eV]; exact ArrV.new _ w _
  have HB : Hid (Below w.heap.size w V) := by show Below _ _ _; rw [eV]; exact (Below.refl _ _).alloc (Nat.le_refl _) _
  have c0 := hA.get 0
  have c1 := hA.get 1
  simp at c0 c1
  have HV := Lib.hid eV
  have HU := Lib.hid hu
  clear hn hx hr eV hA hu
  go_enter Try.func60, Try.ntmps60
  go_upto_region 1 with fail
  rw [← HV.out]
  clear HV
  go_wp2_with fail
  simp only [e1, e2]
  go_loopg [11] 256 (fun f i wr => ∃ j : Nat, i = .int .i64 (j : Nat) ∧ j + f = 256 ∧ wr = V ∧ exCountF u x f j = r)
  case atStart => exact ⟨0, rfl, rfl, rfl, HC.out.symm⟩
  case round =>
    obtain ⟨j, rfl, hf, rfl, hr⟩ := hrel
    by_cases hj : j < 256
    · obtain ⟨f2, rfl, hf2⟩ := count_fuel hf hj
      have jI : (j : Int) < 256 := by omega
      have em := count_mul hj HU.out
      rw [exCountF] at hr
      by_cases hit : (j : Int) * (u : Int) = x
      · rw [if_pos hit] at hr
        have hb : ((j : Int) * (u : Int) == x) = true := by rw [hit]; simp
        subst hr
        clear hit hf hj hf2
        go_wp2_with fail
        refine (CU.out _).mono ?_
        rintro e w' ⟨rfl, rfl⟩
        go_wp2_with fail
        go_ret2
        exact ⟨rfl, HB.out⟩
      · rw [if_neg hit] at hr
        have hb : ((j : Int) * (u : Int) == x) = false := beq_false_of_ne hit
        have HH := Lib.hid (And.intro hf2 hr)
        clear hit hf hj hf2 hr
        go_wp2_with fail
        refine (CU.out _).mono ?_
        rintro e w' ⟨rfl, rfl⟩
        go_wp2_with fail
        go_roundg f2
        case measure => exact Nat.lt_succ_self _
        case rel => exact ⟨j + 1, by go_num, HH.out.1, rfl, HH.out.2⟩
    · obtain rfl : gk = 0 := by omega
      have jI : ¬ (j : Int) < 256 := by omega
      rw [exCountF] at hr
      subst hr
      clear hf hj
      go_wp2_with fail
      go_ret2
      exact ⟨rfl, HB.out⟩
end Go.Proofs.Ytlopmkmcjcijcaa
