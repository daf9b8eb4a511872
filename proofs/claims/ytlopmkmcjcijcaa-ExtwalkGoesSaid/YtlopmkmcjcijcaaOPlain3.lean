/-
  Plain facts of two words put into bytes, one behind the other. Nothing of the program.
-/
import Derived.Test.YtlopmkmcjcijcaaOPlain2
namespace Go.Proofs.Ytlopmkmcjcijcaa
open Go.RowKit
set_option linter.unusedVariables false

theorem splice_getD {bs l : List Nat} {a : Nat} (h : a + l.length ≤ bs.length) (i : Nat) : (splice bs a l).getD i 0 = if a ≤ i ∧ i < a + l.length then l.getD (i - a) 0 else bs.getD i 0 := by
  have e1 : (bs.take a).length = a := by rw [List.length_take]; omega
  unfold splice
  simp only [List.getD_eq_getElem?_getD]
  rcases Nat.lt_or_ge i a with h1 | h1
  · rw [if_neg (by omega), List.getElem?_append_left (by omega), List.getElem?_take, if_pos h1]
  · rw [List.getElem?_append_right (by omega), e1]
    rcases Nat.lt_or_ge i (a + l.length) with h2 | h2
    · rw [if_pos ⟨h1, h2⟩, List.getElem?_append_left (by omega)]
    · rw [if_neg (by omega), List.getElem?_append_right (by omega), List.getElem?_drop]
      congr 2
      omega
theorem list_getD_ext {l m : List Nat} (hl : l.length = m.length) (h : ∀ i, l.getD i 0 = m.getD i 0) : l = m := by
  refine List.ext_getElem hl fun i h1 h2 => ?_
  have := h i
  simpa [List.getD_eq_getElem?_getD, List.getElem?_eq_getElem h1, List.getElem?_eq_getElem h2] using this
/-- Two words at two places: in any order. -/
theorem splice_comm {bs l m : List Nat} {a b : Nat} (ha : a + l.length ≤ bs.length) (hb : b + m.length ≤ bs.length) (hd : a + l.length ≤ b ∨ b + m.length ≤ a) : splice (splice bs a l) b m = splice (splice bs b m) a l := by
  have la : (splice bs a l).length = bs.length := splice_length ha
  have lb : (splice bs b m).length = bs.length := splice_length hb
  have ha2 : a + l.length ≤ (splice bs b m).length := by omega
  have hb2 : b + m.length ≤ (splice bs a l).length := by omega
  refine list_getD_ext ((splice_length hb2).trans (la.trans ((splice_length ha2).trans lb).symm)) fun i => ?_
  rw [splice_getD hb2, splice_getD ha2, splice_getD ha, splice_getD hb]
  by_cases h1 : a ≤ i ∧ i < a + l.length
  · rw [if_pos h1, if_pos h1, if_neg (by omega)]
  · rw [if_neg h1, if_neg h1]
end Go.Proofs.Ytlopmkmcjcijcaa
