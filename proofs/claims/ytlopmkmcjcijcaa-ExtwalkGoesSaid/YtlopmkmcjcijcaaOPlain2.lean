/-
  Plain arithmetic of a word put into bytes. Nothing of the program.
-/
import Derived.Test.YtlopmkmcjcijcaaOPlain
import Derived.Test.YtlopmkmcjcijcaaOwn
namespace Go.Proofs.Ytlopmkmcjcijcaa
open Go.RowKit
set_option linter.unusedVariables false

/-- The sum of all but the word at a place. -/
def wrest (bs : List Nat) (a : Nat) : Nat := wsum 0 (bs.take a) + wsum 0 (bs.drop (a + 2))
theorem wsum_splice {bs : List Nat} {a h l : Nat} (ha : a % 2 = 0) (hn : a + 2 ≤ bs.length) : wsum 0 (splice bs a [h, l]) = wrest bs a + (256 * h + l) := by
  unfold splice wrest
  rw [wsum_append, wsum_append, List.length_take, Nat.min_eq_left (by omega), Nat.zero_add, wsum_parity a 0 (by omega) [h, l], wsum_parity (a + [h, l].length) 0 (by simp; omega)]
  have e : wsum 0 [h, l] = 256 * h + l := by simp [wsum]
  rw [e]
  simp only [List.length_cons, List.length_nil, Nat.zero_add, Nat.reduceAdd]
  omega
theorem wsum_split {bs : List Nat} {a : Nat} (ha : a % 2 = 0) (hn : a + 2 ≤ bs.length) : wsum 0 bs = wrest bs a + (256 * bs.getD a 0 + bs.getD (a + 1) 0) := by
  have e1 := wsum_append 0 (bs.take (a + 2)) (bs.drop (a + 2))
  rw [List.take_append_drop, wsum_snoc bs (a + 1) (by omega), wsum_snoc bs a (by omega), if_pos ha, if_neg (by omega), List.length_take, Nat.min_eq_left hn, wsum_parity (0 + (a + 2)) 0 (by omega)] at e1
  unfold wrest
  omega
theorem pb_two (c : Nat) : pb c 2 = [c / 256 % 256, c % 256] := by
  rw [pb_succ, pb_succ]
  simp [pb]
theorem wsum_put {bs : List Nat} {a c : Nat} (ha : a % 2 = 0) (hn : a + 2 ≤ bs.length) (hc : c ≤ 65535) : wsum 0 (splice bs a (pb c 2)) = wrest bs a + c := by
  rw [pb_two, wsum_splice ha hn]
  omega
theorem wrest_splice {bs : List Nat} {a h l : Nat} (hn : a + 2 ≤ bs.length) : wrest (splice bs a [h, l]) a = wrest bs a := by
  unfold wrest splice
  have e1 : (bs.take a).length = a := by rw [List.length_take]; omega
  congr 2
  · rw [List.take_left' e1]
  · have e2 : (bs.take a ++ ([h, l] ++ bs.drop (a + [h, l].length))) = (bs.take a ++ [h, l]) ++ bs.drop (a + 2) := by simp
    rw [e2, List.drop_left' (by simp; omega)]
theorem wrest_put {bs : List Nat} {a c : Nat} (hn : a + 2 ≤ bs.length) : wrest (splice bs a (pb c 2)) a = wrest bs a := by rw [pb_two]; exact wrest_splice hn
/-- Bytes with their checksum in them. -/
def filled (bs : List Nat) (a : Nat) : List Nat := splice (splice bs a (pb 0 2)) a (pb (65535 - orest (wsum 0 (splice bs a (pb 0 2)))) 2)
theorem splice_two_length {bs : List Nat} {a c : Nat} (hn : a + 2 ≤ bs.length) : (splice bs a (pb c 2)).length = bs.length := splice_length (by rw [pb_length]; exact hn)
theorem filled_length {bs : List Nat} {a : Nat} (hn : a + 2 ≤ bs.length) : (filled bs a).length = bs.length := by
  unfold filled
  rw [splice_two_length (by rw [splice_two_length hn]; exact hn), splice_two_length hn]
theorem filled_byte {bs : List Nat} {a : Nat} (h : ∀ x ∈ bs, x < 256) : ∀ x ∈ filled bs a, x < 256 := splice_byte (splice_byte h (pb_byte _ _)) (pb_byte _ _)
theorem filled_good {bs : List Nat} {a : Nat} (ha : a % 2 = 0) (hn : a + 2 ≤ bs.length) : orest (wsum 0 (filled bs a)) = 65535 := by
  unfold filled
  have h0 := wsum_put (c := 0) ha hn (by decide)
  rw [h0, wsum_put ha (by rw [splice_two_length hn]; exact hn) (by omega), wrest_put hn]
  have h1 := orest_le (wrest bs a + 0)
  have h2 := orest_mod (wrest bs a + 0)
  have h3 := orest_null (wrest bs a + 0)
  rw [orest_full]
  omega
end Go.Proofs.Ytlopmkmcjcijcaa
