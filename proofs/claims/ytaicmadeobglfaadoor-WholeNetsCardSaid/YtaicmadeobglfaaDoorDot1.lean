/-
  Contracts of dotted's number and of the document's Number at three digits.
-/
import Derived.Test.YtaicmadeobglfaaDoorDSplit
namespace Go.Proofs.YtaicmadeobglfaaDoor
open Go.RowKit
set_option linter.unusedVariables false

theorem take_byte (s : ByteArray) (k : Nat) (h : k < s.size) : s.data.toList.take (k + 1) = s.data.toList.take k ++ [s[k]] := by
  rw [List.take_succ_eq_append_getElem (by rw [size_list]; exact h)]
  rfl
theorem head_byte (s : ByteArray) (h : 0 < s.size) : s.data.toList.headD 0 = s[0] := by
  have e := take_byte s 0 h
  cases hl : s.data.toList with
  | nil => have := size_list s; rw [hl] at this; simp at this; omega
  | cons x l => rw [hl] at e; simpa using e
def numR (l : List UInt8) : Nat := if numOk l then numv l else 0
theorem numR_le (l : List UInt8) : numR l ≤ 999 := by
  unfold numR
  split
  · exact numv_three l ‹_›
  · omega
/-- The number of a text, and whether it is one. -/
def NumIs (s : ByteArray) (w : World) (e : Ending) (w' : World) : Prop := e = .returned (.tuple #[.int .i64 (numR s.data.toList : Nat), .bool (numOk s.data.toList)]) ∧ w = w'
theorem num_no {s : ByteArray} {w : World} (h : numOk s.data.toList = false) : NumIs s w (.returned (.tuple #[.int .i64 0, .bool false])) w := by
  refine ⟨?_, rfl⟩
  unfold numR
  rw [h]
  rfl
theorem num_yes {s : ByteArray} {w : World} {n : Nat} (h : numOk s.data.toList = true) (hn : n = numv s.data.toList) : NumIs s w (.returned (.tuple #[.int .i64 n, .bool true])) w := by
  refine ⟨?_, rfl⟩
  unfold numR
  rw [h, if_pos rfl, hn]
/-- The document's number: -1 where it is none. -/
def RNumIs (s : ByteArray) (w : World) (e : Ending) (w' : World) : Prop := e = .returned (.int .i64 (if numOk s.data.toList then (numv s.data.toList : Int) else -1)) ∧ w = w'
theorem rnum_no {s : ByteArray} {w : World} (h : numOk s.data.toList = false) : RNumIs s w (.returned (.int .i64 (-1))) w := by
  refine ⟨?_, rfl⟩
  rw [h]
  rfl
theorem rnum_yes {s : ByteArray} {w : World} {n : Nat} (h : numOk s.data.toList = true) (hn : n = numv s.data.toList) : RNumIs s w (.returned (.int .i64 n)) w := by
  refine ⟨?_, rfl⟩
  rw [h, if_pos rfl, hn]
theorem not_all (s : ByteArray) (k : Nat) (hk : k < s.size) (h : ¬ (48 ≤ s[k].toNat ∧ s[k].toNat ≤ 57)) : allDig s.data.toList = false := by
  rw [← Bool.not_eq_true]
  intro e
  have hm : s[k] ∈ s.data.toList := List.getElem_mem (l := s.data.toList) (n := k) (by rw [size_list]; exact hk)
  have h2 := List.all_eq_true.1 e _ hm
  exact h (dig_val h2)
theorem numOk_of (s : ByteArray) (h1 : 1 ≤ s.size) (h2 : s.size ≤ 3) (h3 : s.size ≤ 1 ∨ s.data.toList.headD 0 ≠ 48) : numOk s.data.toList = allDig s.data.toList := by
  unfold numOk
  rw [size_list]
  have e : (decide (s.size ≤ 1) || s.data.toList.headD 0 != 48) = true := by
    rcases h3 with h3 | h3
    · rw [decide_eq_true h3, Bool.true_or]
    · rw [bne_iff_ne.2 h3, Bool.or_true]
  rw [decide_eq_true h1, decide_eq_true h2, e]
  rfl
theorem head_zero (s : ByteArray) (h : 0 < s.size) : s.data.toList.headD 0 = 48 ↔ s[0].toNat = 48 := by
  rw [head_byte s h]
  constructor
  · intro e; rw [e]; rfl
  · intro e; rw [← u8_back s[0] 48 e.symm]; rfl

end Go.Proofs.YtaicmadeobglfaaDoor
