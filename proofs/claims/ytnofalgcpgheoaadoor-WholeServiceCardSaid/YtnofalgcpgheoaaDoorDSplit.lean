/-
  The contract of strings.SplitN at a sign of one byte and a number of parts from 2 to 64: for a text of whatever length.
-/
import Derived.Test.YtnofalgcpgheoaaDoorBase
import Derived.Test.YtnofalgcpgheoaaDoorDPlain
import Derived.Shelf.Lay
import Derived.Shelf.Strings.Search3
import Derived.Lib.Split
import Derived.Lib.Strings
import Derived.Laws.Strings3
import Derived.Deep.OwnRows
import Derived.Deep.LoopGhost
namespace Go.Proofs.YtnofalgcpgheoaaDoor
open Go.RowKit Go.Shelf
set_option linter.unusedVariables false

theorem byte_index (l : List UInt8) (c : UInt8) : Lib.indexByte l c = Lib.index l [c] := by
  induction l with
  | nil => rfl
  | cons x l ih =>
    by_cases h : x = c
    · subst h
      rw [index_here]
      simp [Lib.indexByte]
    · rw [index_next l h, ← ih]
      simp [Lib.indexByte, h]
/-- No such sign: whole. -/
theorem cutK_miss {c : UInt8} {l : List UInt8} (k : Nat) (h : Lib.index l [c] = -1) : cutK c l k = [l] := by
  rw [← splitK_cut]
  cases k <;> simp [Lib.splitK, h]
theorem cutK_hit {c : UInt8} {l : List UInt8} (k i : Nat) (h : Lib.index l [c] = i) : cutK c l (k + 1) = l.take i :: cutK c (l.drop (i + 1)) k := by
  rw [← splitK_cut, ← splitK_cut, Lib.splitK]
  have h2 : ¬ ((i : Int) = -1) := by omega
  simp [h, h2]
theorem index_where (l : List UInt8) (c : UInt8) : Lib.index l [c] = -1 ∨ ∃ i : Nat, Lib.index l [c] = i ∧ i < l.length := by
  induction l with
  | nil => exact .inl rfl
  | cons x l ih =>
    by_cases h : x = c
    · subst h
      exact .inr ⟨0, by rw [index_here]; rfl, by simp⟩
    · rw [index_next l h]
      rcases ih with e | ⟨i, e, hi⟩
      · exact .inl (by rw [if_pos e])
      · refine .inr ⟨i + 1, ?_, by simpa using hi⟩
        rw [e, if_neg (by omega)]
        rfl
theorem size_list (s : ByteArray) : s.data.toList.length = s.size := by rw [Array.length_toList]; rfl
theorem cut_most (c : UInt8) (l : List UInt8) : (cutL c l).length ≤ l.length + 1 := by
  induction l with
  | nil => simp [cutL]
  | cons x l ih =>
    unfold cutL
    split
    · simpa using ih
    · rw [onHead_length (cutL_pos _ _), List.length_cons]; omega
theorem cutK_min (c : UInt8) (l : List UInt8) (n : Nat) (hn : 1 ≤ n) : cutK c l (min n (l.length + 1) - 1) = cutK c l (n - 1) := by
  have h := cut_most c l
  by_cases h2 : n ≤ l.length + 1
  · rw [Nat.min_eq_left h2]
  · rw [Nat.min_eq_right (by omega), cutK_all c l _ (by omega), cutK_all c l _ (by omega)]

/-- A new block holds the texts, and nothing old has changed. -/
def TextsAt (w w' : World) (g : Nat) (ps : List ByteArray) : Prop := (∀ (j : Nat) x, ps[j]? = some x → w'.cell? ⟨g, j, none⟩ = some (.string x)) ∧ Below w.heap.size w w'
/-- What SplitN answers. -/
def SplitIs (w : World) (c : UInt8) (s : ByteArray) (n : Nat) (e : Ending) (w' : World) : Prop :=
  ∃ (ps : List ByteArray) (N : Nat), ps.map (·.data.toList) = cutK c s.data.toList (n - 1) ∧ ps.length ≤ N ∧ e = .returned (.slice (some ⟨w.heap.size, 0, none⟩) ps.length N) ∧ TextsAt w w' w.heap.size ps

theorem string_info : (Tryd.prog.info? 9).map (fun i => (i.zero, i.size, i.bytes)) = some (some (.string ByteArray.empty), 1, 16) := by kernel_rfl
theorem texts_new (w : World) (ps : List ByteArray) (N : Nat) : TextsAt w (w.alloc (.cells (Lib.cellsOf ps N) 9)) w.heap.size ps := by
  refine ⟨fun j x h => ?_, (Below.refl _ _).alloc (Nat.le_refl _) _⟩
  rw [cell_of_row _ w.heap.size j _ _ _ (heap_alloc_new w _)]
  have hj : j < ps.length := by
    rcases Nat.lt_or_ge j ps.length with hlt | hge
    · exact hlt
    · rw [List.getElem?_eq_none hge] at h; cases h
  unfold Lib.cellsOf
  rw [List.getElem?_toArray, List.getElem?_append_left (by simpa using hj), List.getElem?_map, h]
  rfl

end Go.Proofs.YtnofalgcpgheoaaDoor
