/-
  Plain facts of times that never go back, written ahead of the code of layer 25. Nothing of the program.
-/
namespace Go.Proofs.Ytemgnaalmgkfiaa
set_option linter.unusedVariables false

/-- The time behind another one, and how long that is. -/
def rtNow (last : Nat) (seen : Bool) (t : Nat) : Nat := if seen = true then max last t else t
def rtGap (last : Nat) (seen : Bool) (t : Nat) : Nat := if seen = true then t - last else 0
/-- The greatest one of the first k. -/
def rtMax (l : List Nat) : Nat → Nat
  | 0 => 0
  | k + 1 => max (rtMax l k) (l.getD k 0)
def rtRun (l : List Nat) : List Nat := (List.range l.length).map fun i => rtMax l (i + 1)
theorem rtRun_len (l : List Nat) : (rtRun l).length = l.length := by simp [rtRun]
theorem rtRun_get {l : List Nat} {i : Nat} (h : i < l.length) : (rtRun l).getD i 0 = rtMax l (i + 1) := by
  unfold rtRun
  rw [List.getD_eq_getElem?_getD, List.getElem?_map, List.getElem?_range h]
  rfl
theorem rtMax_up (l : List Nat) (k : Nat) : rtMax l k ≤ rtMax l (k + 1) := Nat.le_max_left _ _
theorem rtMax_mono (l : List Nat) : ∀ {i j : Nat}, i ≤ j → rtMax l i ≤ rtMax l j
  | i, 0, h => by obtain rfl : i = 0 := by omega
                  exact Nat.le_refl _
  | i, j + 1, h => by
    rcases Nat.lt_or_ge i (j + 1) with h1 | h1
    · exact Nat.le_trans (rtMax_mono l (by omega : i ≤ j)) (rtMax_up l j)
    · obtain rfl : i = j + 1 := by omega
      exact Nat.le_refl _
theorem rtMax_get {l : List Nat} {i k : Nat} (h : i < k) : l.getD i 0 ≤ rtMax l k := by
  have h1 : l.getD i 0 ≤ rtMax l (i + 1) := Nat.le_max_right _ _
  exact Nat.le_trans h1 (rtMax_mono l h)
theorem rtMax_le {l : List Nat} {M : Nat} (h : ∀ x ∈ l, x ≤ M) : ∀ k, rtMax l k ≤ M
  | 0 => Nat.zero_le _
  | k + 1 => by
    have h1 := rtMax_le h k
    have h2 : l.getD k 0 ≤ M := by
      rw [List.getD_eq_getElem?_getD]
      rcases Nat.lt_or_ge k l.length with hk | hk
      · rw [List.getElem?_eq_getElem hk]
        exact h _ (List.getElem_mem hk)
      · rw [List.getElem?_eq_none hk]
        exact Nat.zero_le _
    exact Nat.max_le.2 ⟨h1, h2⟩
/-- Run again it is the same. -/
theorem rtMax_run (l : List Nat) : ∀ k, k ≤ l.length → rtMax (rtRun l) k = rtMax l k
  | 0, _ => rfl
  | k + 1, h => by
    show max (rtMax (rtRun l) k) ((rtRun l).getD k 0) = _
    rw [rtMax_run l k (by omega), rtRun_get (by omega : k < l.length)]
    exact Nat.max_eq_right (rtMax_up l k)
theorem rtRun_run (l : List Nat) : rtRun (rtRun l) = rtRun l := by
  unfold rtRun
  rw [List.length_map, List.length_range]
  refine List.map_congr_left fun i hi => ?_
  exact rtMax_run l (i + 1) (List.mem_range.1 hi)
/-- Step by step it is the greatest one, and what is added up is how far the last one is behind the first. -/
theorem rtNow_run (l : List Nat) (k : Nat) : rtNow (rtMax l k) (decide (0 < k)) (l.getD k 0) = rtMax l (k + 1) := by
  unfold rtNow
  rcases Nat.eq_zero_or_pos k with rfl | h
  · simp [rtMax]
  · rw [decide_eq_true h, if_pos rfl]
    rfl
theorem rtGap_run (l : List Nat) (k : Nat) (h : 0 < k) : rtGap (rtMax l k) (decide (0 < k)) (l.getD k 0) = rtMax l (k + 1) - rtMax l k := by
  unfold rtGap
  rw [decide_eq_true h, if_pos rfl]
  show _ = max (rtMax l k) (l.getD k 0) - rtMax l k
  omega
/-- Those that are behind. -/
def rtBack (l : List Nat) : List Nat := (List.range l.length).filter fun i => decide (l.getD i 0 < rtMax l (i + 1))
theorem rtBack_run (l : List Nat) : rtBack (rtRun l) = [] := by
  unfold rtBack
  rw [List.filter_eq_nil_iff]
  intro i hi
  have hi2 : i < l.length := by have := List.mem_range.1 hi; rw [rtRun_len] at this; exact this
  rw [rtRun_get hi2, rtMax_run l (i + 1) hi2]
  simp
/-- The longest time between, and where it ends: among the first k. -/
def rtLong (l : List Nat) : Nat → Nat × Option Nat
  | 0 => (0, none)
  | k + 1 => if k = 0 then (0, none) else
      let r := rtLong l k
      let d := rtMax l (k + 1) - rtMax l k
      if r.2 = none ∨ r.1 < d then (d, some k) else r
end Go.Proofs.Ytemgnaalmgkfiaa
