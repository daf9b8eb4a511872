/-
  The contract of fourhead's Seal at a header that Read tells.
  The fields of a sealed copy whose second byte was put.
  Equality of two headers' fields that are the same.
-/
import Derived.Test.YtlopmkmcjcijcaaFh1
import Derived.Test.YtlopmkmcjcijcaaOne1
import Derived.Test.YtlopmkmcjcijcaaApp
import Derived.DeepKeys
namespace Go.Proofs.Ytlopmkmcjcijcaa
open Go.RowKit
set_option linter.unusedVariables false

/-- Bytes with their header's checksum in them. -/
def fhseal (bs : List Nat) (m : Nat) : List Nat := filled (bs.take m) 10 ++ bs.drop m
theorem own_out {B : Nat} {w : World} {g : Nat} {l : List Nat} (h : Own w g l) (hB : B ≤ g) (hl : l.length ≤ maxLen) : OutIs B w (.slice (some ⟨g, 0, none⟩) l.length l.length) l := by
  refine ⟨by simp [bcells_length], .inr ⟨g, l.length, (bcells l).toArray, rfl, hB, h, Nat.le_refl _, hl, by simp [bcells_length], ?_⟩⟩
  simp [List.take_of_length_le, bcells_length]
def SealIs (w : World) (l : List Nat) (e : Ending) (w' : World) : Prop := ∃ v, e = .returned (.tuple #[v, .int .i64 0]) ∧ OutIs w.heap.size w' v l ∧ Below w.heap.size w w'
end Go.Proofs.Ytlopmkmcjcijcaa

namespace Go.Proofs.Ytlopmkmcjcijcaa
set_option linter.unusedVariables false

theorem filled_out (X : List Nat) (f i : Nat) (hfn : f + 2 ≤ X.length) (hi : i < f ∨ f + 2 ≤ i) : (filled X f).getD i 0 = X.getD i 0 := by
  unfold filled
  rw [splice_getD (by rw [pb_length, splice_two_length hfn]; exact hfn), if_neg (by rw [pb_length]; omega), splice_getD (by rw [pb_length]; exact hfn), if_neg (by rw [pb_length]; omega)]
theorem fhseal_length (L : List Nat) (n m : Nat) (hl : L.length = n) (hm : 12 ≤ m) (hmn : m ≤ n) : (fhseal L m).length = n := by
  unfold fhseal
  rw [List.length_append, filled_length (by rw [List.length_take]; omega), List.length_take, List.length_drop]
  omega
theorem fhseal_byte {L : List Nat} (m : Nat) (h : ∀ x ∈ L, x < 256) : ∀ x ∈ fhseal L m, x < 256 := by
  unfold fhseal
  intro x hx
  rcases List.mem_append.1 hx with hx | hx
  · exact filled_byte (fun y hy => h y (List.mem_of_mem_take hy)) x hx
  · exact h x (List.mem_of_mem_drop hx)
theorem fhseal_out (L : List Nat) (n m i : Nat) (hl : L.length = n) (hm : 12 ≤ m) (hmn : m ≤ n) (hi : i < 10 ∨ 12 ≤ i) (hin : i < m) : (fhseal L m).getD i 0 = L.getD i 0 := by
  unfold fhseal
  have h1 : (filled (L.take m) 10).length = m := by rw [filled_length (by rw [List.length_take]; omega), List.length_take]; omega
  rw [List.getD_eq_getElem?_getD, List.getElem?_append_left (by omega), ← List.getD_eq_getElem?_getD, filled_out _ _ _ (by rw [List.length_take]; omega) hi, List.getD_eq_getElem?_getD, List.getD_eq_getElem?_getD, List.getElem?_take_of_lt hin]
theorem fhput_getD (bs : List Nat) (j i : Nat) (h : 1 < bs.length) : (bs.set 1 j).getD i 0 = if i = 1 then j else bs.getD i 0 := by
  rw [List.getD_eq_getElem?_getD, List.getD_eq_getElem?_getD, List.getElem?_set]
  by_cases h1 : i = 1
  · subst h1
    simp [h]
  · rw [if_neg (fun e => h1 e.symm), if_neg h1]
/-- What the sealed copy is. -/
structure Sealed (n m : Nat) (bs : List Nat) (j : Nat) (S : List Nat) : Prop where
  len : S.length = n
  byte : ∀ x ∈ S, x < 256
  one : S.getD 1 0 = j
  same : ∀ i, i < 20 → i ≠ 1 → i ≠ 10 → i ≠ 11 → S.getD i 0 = bs.getD i 0
theorem sealed_is {bs : List Nat} {n m j : Nat} (hl : bs.length = n) (hb : ∀ x ∈ bs, x < 256) (hm : 20 ≤ m) (hmn : m ≤ n) (hj : j < 256) : Sealed n m bs j (fhseal (bs.set 1 j) m) where
  len := fhseal_length _ n m (by rw [List.length_set]; exact hl) (by omega) hmn
  byte := fhseal_byte m fun x hx => by
    rcases List.mem_or_eq_of_mem_set hx with h | h
    · exact hb x h
    · omega
  one := by rw [fhseal_out _ n m 1 (by rw [List.length_set]; exact hl) (by omega) hmn (by omega) (by omega), fhput_getD _ _ _ (by omega), if_pos rfl]
  same := fun i h1 h2 h3 h4 => by rw [fhseal_out _ n m i (by rw [List.length_set]; exact hl) (by omega) hmn (by omega) (by omega), fhput_getD _ _ _ (by omega), if_neg h2]
theorem Sealed.fields {n m : Nat} {bs : List Nat} {j : Nat} {S : List Nat} (h : Sealed n m bs j S) : fhf S = ((fhf bs).set 1 (.int .i64 (j : Nat))).set 8 (.int .i64 (fhw S 10 : Nat)) := by
  have e := h.same
  have h1 := h.one
  have w2 : fhw S 2 = fhw bs 2 := by unfold fhw; rw [e 2 (by decide) (by decide) (by decide) (by decide), e 3 (by decide) (by decide) (by decide) (by decide)]
  have w4 : fhw S 4 = fhw bs 4 := by unfold fhw; rw [e 4 (by decide) (by decide) (by decide) (by decide), e 5 (by decide) (by decide) (by decide) (by decide)]
  have w6 : fhw S 6 = fhw bs 6 := by unfold fhw; rw [e 6 (by decide) (by decide) (by decide) (by decide), e 7 (by decide) (by decide) (by decide) (by decide)]
  generalize hw : fhw S 10 = s10
  show fhf S = [_, _, _, _, _, _, _, _, _, _, _, _, _, _, _, _, _]
  unfold fhf
  rw [hw, w2, w4, w6, h1, e 0 (by decide) (by decide) (by decide) (by decide), e 6 (by decide) (by decide) (by decide) (by decide), e 8 (by decide) (by decide) (by decide) (by decide), e 9 (by decide) (by decide) (by decide) (by decide),
    e 12 (by decide) (by decide) (by decide) (by decide), e 13 (by decide) (by decide) (by decide) (by decide), e 14 (by decide) (by decide) (by decide) (by decide), e 15 (by decide) (by decide) (by decide) (by decide),
    e 16 (by decide) (by decide) (by decide) (by decide), e 17 (by decide) (by decide) (by decide) (by decide), e 18 (by decide) (by decide) (by decide) (by decide), e 19 (by decide) (by decide) (by decide) (by decide)]
/-- It is a header still. -/
theorem Sealed.def {n m : Nat} {bs : List Nat} {j : Nat} {S : List Nat} (h : Sealed n m bs j S) : fhdef n S = fhdef n bs := by
  unfold fhdef
  rw [h.same 0 (by decide) (by decide) (by decide) (by decide)]
/-- With Tos and Sum put back it is the same header. -/
theorem Sealed.back {n m : Nat} {bs : List Nat} {j : Nat} {S : List Nat} (h : Sealed n m bs j S) : ((fhf S).set 1 (.int .i64 (bs.getD 1 0 : Nat))).set 8 (.int .i64 (fhw bs 10 : Nat)) = fhf bs := by
  rw [h.fields]
  rfl
end Go.Proofs.Ytlopmkmcjcijcaa

namespace Go.Proofs.Ytlopmkmcjcijcaa
open Go.RowKit
set_option linter.unusedVariables false

theorem lit_i64 {n : Nat} (h : n < 65536) : (Lit.int .i64 (n : Int)).wf = true := by
  have h1 : IntKind.min .i64 ≤ (n : Int) := by show (-9223372036854775808 : Int) ≤ _; omega
  have h2 : (n : Int) ≤ IntKind.max .i64 := by show _ ≤ (9223372036854775807 : Int); omega
  show (decide (IntKind.min .i64 ≤ (n : Int)) && decide ((n : Int) ≤ IntKind.max .i64)) = true
  rw [decide_eq_true h1, decide_eq_true h2]
  rfl
theorem lit_u8 {n : Nat} (h : n < 256) : (Lit.int .u8 (n : Int)).wf = true := by
  have h1 : IntKind.min .u8 ≤ (n : Int) := by show (0 : Int) ≤ _; omega
  have h2 : (n : Int) ≤ IntKind.max .u8 := by show _ ≤ (255 : Int); omega
  show (decide (IntKind.min .u8 ≤ (n : Int)) && decide ((n : Int) ≤ IntKind.max .u8)) = true
  rw [decide_eq_true h1, decide_eq_true h2]
  rfl
theorem cells_int : Try.prog.cellsOf 3 = 1 := by kernel_rfl
theorem cells_u8 : Try.prog.cellsOf 5 = 1 := by kernel_rfl
theorem key_i64 (d : Nat) {n : Nat} (h : n < 65536) : Try.prog.keyLits (d + 1) 3 [.int .i64 (n : Int)] = some [.int .i64 (n : Int)] := by
  unfold Program.keyLits
  rw [Try.underlying3]
  simp [lit_i64 h]
theorem key_u8 (d : Nat) {n : Nat} (h : n < 256) : Try.prog.keyLits (d + 1) 5 [.int .u8 (n : Int)] = some [.int .u8 (n : Int)] := by
  unfold Program.keyLits
  rw [Try.underlying5]
  simp [lit_u8 h]
end Go.Proofs.Ytlopmkmcjcijcaa
