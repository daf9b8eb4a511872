/-
  bitrow's shortest, longest, And, Or.
-/
import Derived.Test.YthikjngmaekjgaaBr5
namespace Go.Proofs.Ythikjngmaekjgaa
open Go.RowKit
set_option linter.unusedVariables false

/-- A slice of rows: each is there and reads as it should. -/
def RowsAt (w : World) (A : Option Addr) (xss : List (List Nat)) : Prop :=
  ∀ i, i < xss.length → ∃ b o A' c, A = some ⟨b, o, none⟩ ∧ b < w.heap.size ∧ w.cell? ⟨b, o + i, none⟩ = some (.slice A' (xss.getD i []).length c) ∧ RowU w A' (xss.getD i []).length (xss.getD i [])
theorem RowsAt.below {w w' : World} {A : Option Addr} {xss : List (List Nat)} (h : RowsAt w A xss) (hb : Below w.heap.size w w') : RowsAt w' A xss := fun i hi => by
  obtain ⟨b, o, A', c, h1, h2, h3, h4⟩ := h i hi
  exact ⟨b, o, A', c, h1, Nat.lt_of_lt_of_le h2 hb.size, (hb.cell (p := ⟨b, o + i, none⟩) h2).trans h3, h4.below hb⟩
theorem RowsAt.nil (w : World) (A : Option Addr) : RowsAt w A [] := fun i hi => absurd hi (Nat.not_lt_zero _)

theorem take_succ_rows (l : List (List Nat)) (k : Nat) (h : k < l.length) : l.take (k + 1) = l.take k ++ [l.getD k []] := by
  rw [List.getD_eq_getElem?_getD, List.getElem?_eq_getElem h]
  exact List.take_succ_eq_append_getElem h
/-- The least length of the first k rows. -/
def minTo (xss : List (List Nat)) (k : Nat) : Nat := (xss.take k).foldl (fun n r => min n r.length) (xss.getD 0 []).length
def maxTo (xss : List (List Nat)) (k : Nat) : Nat := (xss.take k).foldl (fun n r => max n r.length) 0
def minL (xss : List (List Nat)) : Nat := minTo xss xss.length
def maxL (xss : List (List Nat)) : Nat := maxTo xss xss.length
theorem minTo_succ {xss : List (List Nat)} {k : Nat} (h : k < xss.length) : minTo xss (k + 1) = min (minTo xss k) (xss.getD k []).length := by
  unfold minTo
  rw [take_succ_rows xss k h, List.foldl_append]
  rfl
theorem maxTo_succ {xss : List (List Nat)} {k : Nat} (h : k < xss.length) : maxTo xss (k + 1) = max (maxTo xss k) (xss.getD k []).length := by
  unfold maxTo
  rw [take_succ_rows xss k h, List.foldl_append]
  rfl
theorem minTo_anti {xss : List (List Nat)} : ∀ (d k : Nat), k + d ≤ xss.length → minTo xss (k + d) ≤ minTo xss k := by
  intro d
  induction d with
  | zero => intro k _; exact Nat.le_refl _
  | succ d ih =>
    intro k h
    rw [← Nat.add_assoc, minTo_succ (by omega)]
    have := ih k (by omega)
    omega
theorem maxTo_mono {xss : List (List Nat)} : ∀ (d k : Nat), k + d ≤ xss.length → maxTo xss k ≤ maxTo xss (k + d) := by
  intro d
  induction d with
  | zero => intro k _; exact Nat.le_refl _
  | succ d ih =>
    intro k h
    rw [← Nat.add_assoc, maxTo_succ (by omega)]
    have := ih k (by omega)
    omega
theorem minL_le {xss : List (List Nat)} {k : Nat} (h : k < xss.length) : minL xss ≤ (xss.getD k []).length := by
  have h1 := minTo_anti (xss := xss) (xss.length - (k + 1)) (k + 1) (by omega)
  rw [show k + 1 + (xss.length - (k + 1)) = xss.length from by omega, minTo_succ h] at h1
  unfold minL
  omega
theorem le_maxL {xss : List (List Nat)} {k : Nat} (h : k < xss.length) : (xss.getD k []).length ≤ maxL xss := by
  have h1 := maxTo_mono (xss := xss) (xss.length - (k + 1)) (k + 1) (by omega)
  rw [show k + 1 + (xss.length - (k + 1)) = xss.length from by omega, maxTo_succ h] at h1
  unfold maxL
  omega
theorem maxTo_le {xss : List (List Nat)} {m : Nat} (hl : ∀ k, (xss.getD k []).length ≤ m) : ∀ k, k ≤ xss.length → maxTo xss k ≤ m := by
  intro k
  induction k with
  | zero => intro _; exact Nat.zero_le _
  | succ k ih =>
    intro h
    rw [maxTo_succ (by omega)]
    have := ih (by omega)
    have := hl k
    omega
theorem minTo_le {xss : List (List Nat)} {m : Nat} (hl : ∀ k, (xss.getD k []).length ≤ m) : ∀ k, k ≤ xss.length → minTo xss k ≤ m := by
  intro k
  induction k with
  | zero => intro _; exact hl 0
  | succ k ih =>
    intro h
    rw [minTo_succ (by omega)]
    have := ih (by omega)
    omega

theorem min_int (a b : Nat) : (if b < a then (b : Int) else (a : Int)) = ((min a b : Nat) : Int) := by
  split <;> omega
theorem max_int (a b : Nat) : (if a < b then (b : Int) else (a : Int)) = ((max a b : Nat) : Int) := by
  split <;> omega

set_option maxHeartbeats 400000 in
theorem longest_any (A : Option Addr) (n cap : Nat) (xss : List (List Nat)) (w : World) (hA : RowsAt w A xss) (hn : xss.length = n) (hl : n ≤ 1048576) (hm : ∀ k, (xss.getD k []).length ≤ 1000) :
    Calls Try.prog 20 #[.slice A n cap] w fun e w' => e = .returned (.int .i64 (maxL xss : Nat)) ∧ w = w' := by
  have HA := Lib.hid hA
  have HM := Lib.hid hm
  have HN := Lib.hid hn
  clear hA hm hn
  go_enter Try.func20, Try.ntmps20
  go_wp2_with fail
  go_loop [3, 8] (fun v i => ∃ k : Nat, k ≤ n ∧ i = .int .i64 (k : Int) ∧ v = .int .i64 (maxTo xss k : Nat)) (fun _ i => n - (intOf i).toNat)
  case atStart => exact ⟨0, Nat.zero_le _, rfl, rfl⟩
  case round =>
    obtain ⟨k, hk, rfl, rfl⟩ := hrel
    by_cases hlt : k < n
    · obtain ⟨b, o, A', c, rfl, hb, h1, hR⟩ := HA.out k (by rw [HN.out]; exact hlt)
      have hst := maxTo_succ (xss := xss) (k := k) (by rw [HN.out]; exact hlt)
      have hb1 := maxTo_le HM.out k (by rw [HN.out]; exact hk)
      have hb2 := HM.out k
      obtain ⟨x, hx⟩ : ∃ x, x = maxTo xss k := ⟨_, rfl⟩
      obtain ⟨y, hy⟩ : ∃ y, y = (xss.getD k []).length := ⟨_, rfl⟩
      rw [← hx, ← hy] at hst
      rw [← hx] at hb1 ⊢
      rw [← hy] at hb2 h1
      have HS := Lib.hid hst
      clear hx hy hst hR hb
      go_wp2_with fail
      go_round
      case rel => exact ⟨k + 1, hlt, by go_num, by rw [HS.out, ← max_int]⟩
      case measure => simp [intOf]; omega
    · obtain rfl : k = n := by omega
      have e : maxTo xss k = maxL xss := by unfold maxL; rw [HN.out]
      rw [e]
      clear hk hlt e
      go_wp2_with fail
      go_ret
      exact ⟨rfl, rfl⟩
end Go.Proofs.Ythikjngmaekjgaa
