/-
  The contracts of the document's Most, Bit, set, front of layer 7.
-/
import Derived.Test.YtlkilkhnblmjaaaDoorPre6
namespace Go.Proofs.YtlkilkhnblmjaaaDoor
open Go.RowKit
set_option linter.unusedVariables false

def rmost (v : Int) : Int := if v = 4 then 32 else if v = 6 then 128 else -1
theorem rmost_any (v : Int) (w : World) : Calls Tryd.prog 25 #[.int .i64 v] w fun e w' => e = .returned (.int .i64 (rmost v)) ∧ Below w.heap.size w w' := by
  by_cases h : v = 4
  · subst h
    go_enter Tryd.func25, Tryd.ntmps25
    go_wp2_with fail
    go_ret
    exact ⟨rfl, Below.refl _ _⟩
  · have hb : (v == 4) = false := by simpa using h
    by_cases h6 : v = 6
    · subst h6
      clear hb h
      go_enter Tryd.func25, Tryd.ntmps25
      go_wp2_with fail
      go_ret
      exact ⟨rfl, Below.refl _ _⟩
    · have hb6 : (v == 6) = false := by simpa using h6
      have F : Hid (rmost v = -1) := by show _ = _; unfold rmost; rw [if_neg h, if_neg h6]
      clear h h6
      go_enter Tryd.func25, Tryd.ntmps25
      go_wp2_with fail
      go_ret
      exact ⟨by rw [F.out]; rfl, Below.refl _ _⟩
def rbit (X : List Nat) (i : Nat) : Int := if bt X i then 1 else 0
theorem rbit_is {X : List Nat} {i : Nat} : (((X.getD (i / 8) 0) / 2 ^ (7 - i % 8) % 2 : Nat) : Int) = rbit X i := by
  unfold rbit bt
  rw [Nat.testBit_eq_decide_div_mod_eq]
  by_cases h : X.getD (i / 8) 0 / 2 ^ (7 - i % 8) % 2 = 1
  · rw [h]; simp
  · have : X.getD (i / 8) 0 / 2 ^ (7 - i % 8) % 2 = 0 := by omega
    rw [this]; simp
theorem bit_arith {i : Nat} (h : i < 128) : ((i : Int).tdiv 8 = ((i / 8 : Nat) : Int)) ∧ ((i : Int).tmod 8 = ((i % 8 : Nat) : Int)) ∧ (wrap64 (7 - ((i % 8 : Nat) : Int)) = ((7 - i % 8 : Nat) : Int)) := by
  refine ⟨?_, ?_, ?_⟩
  · rw [Int.tdiv_eq_ediv_of_nonneg (by omega)]; omega
  · rw [Int.tmod_eq_emod_of_nonneg (by omega)]; omega
  · unfold wrap64; omega
theorem half_nat (x j : Nat) : x / 2 ^ j / 2 = x / 2 ^ (j + 1) := by rw [Nat.div_div_eq_div_mul, Nat.pow_succ]
theorem less_one {j : Nat} (h : j ≤ 7) : wrap64 (((j + 1 : Nat) : Int) - 1) = (j : Int) := by unfold wrap64; omega
theorem tdiv_two {n : Nat} : ((n : Int).tdiv 2) = ((n / 2 : Nat) : Int) := by rw [Int.tdiv_eq_ediv_of_nonneg (by omega)]; omega
theorem tmod_two' {n : Nat} : ((n : Int).tmod 2) = ((n % 2 : Nat) : Int) := by rw [Int.tmod_eq_emod_of_nonneg (by omega)]; omega
set_option maxRecDepth 10000 in
set_option maxHeartbeats 3200000 in
theorem rbit_any (X : List Nat) (i : Nat) (w : World) (hX : Adr X) (hi : i < 128) : Calls Tryd.prog 36 #[.agg (bcells X).toArray, .int .i64 i] w fun e w' => e = .returned (.int .i64 (rbit X i)) ∧ Below w.heap.size w w' := by
  obtain ⟨k2, k3, k4⟩ := bit_arith hi
  have HR := Lib.hid (rbit_is (X := X) (i := i))
  obtain ⟨q, hq⟩ : ∃ q, q = i / 8 := ⟨_, rfl⟩
  obtain ⟨r, hr⟩ : ∃ r, r = i % 8 := ⟨_, rfl⟩
  obtain ⟨s, hs⟩ : ∃ s, s = 7 - i % 8 := ⟨_, rfl⟩
  have hqi : (q : Int) < 16 := by omega
  have hs7 : Hid (s ≤ 7) := by show _ ≤ _; omega
  rw [← hs, ← hq] at HR
  rw [← hs, ← hr] at k4
  rw [← hq] at k2
  rw [← hr] at k3
  obtain ⟨x, hx⟩ : ∃ x, x = X.getD q 0 := ⟨_, rfl⟩
  rw [← hx] at HR
  have A0 := ArrV.new 22 w (bcells X)
  have c0 : (w.alloc (.cells (bcells X).toArray 22)).cell? ⟨w.heap.size, q, none⟩ = some (.int .u8 (x : Nat)) := by
    rw [A0.get, bcells_at (by rw [hX.len]; omega), hx]
  have hx8 : Hid (x < 256) := by show _ < _; rw [hx]; exact hX.at q
  have B0 : Hid (Below w.heap.size w (w.alloc (.cells (bcells X).toArray 22))) := (Below.refl _ _).alloc (Nat.le_refl _) _
  clear hq hr hs hx A0 hX hi
  go_enter Tryd.func36, Tryd.ntmps36
  go_wp2_with fail
  have wx : wrap64 (x : Int) = (x : Int) := by have := hx8.out; unfold wrap64; omega
  rw [k4, wx]
  clear k2 k3 k4 hqi c0 wx
  have HW := Lib.hid (rfl : w.alloc (.cells (bcells X).toArray 22) = w.alloc (.cells (bcells X).toArray 22))
  go_loopw [5, 6] (fun n k wr => ∃ j m : Nat, j ≤ s ∧ k = .int .i64 j ∧ n = .int .i64 m ∧ Hid (m = x / 2 ^ (s - j)) ∧ wr = w.alloc (.cells (bcells X).toArray 22)) (fun _ k _ => (intOf k).toNat)
  case atStart => exact ⟨s, x, Nat.le_refl _, rfl, rfl, by show _ = _; rw [Nat.sub_self]; simp, rfl⟩
  case round =>
    obtain ⟨j, m, hj, rfl, rfl, Hm, rfl⟩ := hrel
    match j, hj with
    | 0, _ =>
      rw [Nat.sub_zero] at Hm
      have HF : Hid (((m % 2 : Nat) : Int) = rbit X i) := by show _ = _; rw [Hm.out]; exact HR.out
      have tm := tmod_two' (n := m)
      obtain ⟨u, hu⟩ : ∃ u, u = m % 2 := ⟨_, rfl⟩
      rw [← hu] at tm HF
      have wu : wrap64 (u : Int) = (u : Int) := by have : u < 2 := by omega
                                                   unfold wrap64; omega
      clear hu
      go_wp2_with fail
      go_ret
      exact ⟨by rw [← HF.out]; first | rfl | (rw [← tm]; rfl) | (simp [tm, wu]), B0.out⟩
    | j + 1, hj =>
      have wj := less_one (j := j) (by have := hs7.out; omega)
      have td := tdiv_two (n := m)
      have HM : Hid (m / 2 = x / 2 ^ (s - j)) := by
        show _ = _
        rw [Hm.out, half_nat, show s - (j + 1) + 1 = s - j from by omega]
      obtain ⟨u, hu⟩ : ∃ u, u = m / 2 := ⟨_, rfl⟩
      rw [← hu] at td HM
      have wu : wrap64 (u : Int) = (u : Int) := by
        have h1 := hx8.out
        have h2 : x / 2 ^ (s - j) ≤ x := Nat.div_le_self _ _
        have h3 := HM.out
        rw [hu] at *
        unfold wrap64
        omega
      have hpos : ¬ (((j + 1 : Nat) : Int) ≤ 0) := by omega
      have hpos2 : (0 : Int) < ((j + 1 : Nat) : Int) := by omega
      clear hu Hm
      obtain ⟨z, hz⟩ : ∃ z, z = j + 1 := ⟨_, rfl⟩
      rw [← hz] at wj hpos hpos2 ⊢
      have hjs : Hid (j ≤ s ∧ z = j + 1) := ⟨by omega, hz⟩
      clear hz hj
      go_wp2_with fail
      rw [wj, wu]
      go_roundw
      case rel => exact ⟨j, u, hjs.out.1, rfl, rfl, HM.out, trivial⟩
      case measure => have := hjs.out.2; simp [intOf]; omega
end Go.Proofs.YtlkilkhnblmjaaaDoor
