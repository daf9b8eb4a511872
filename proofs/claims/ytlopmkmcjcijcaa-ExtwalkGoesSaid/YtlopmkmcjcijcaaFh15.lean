/-
  Plain facts of what is wrong with headers, and of a sealed header with one bit turned. Nothing of the program.
-/
import Derived.Test.YtlopmkmcjcijcaaFh14
namespace Go.Proofs.Ytlopmkmcjcijcaa
set_option linter.unusedVariables false

theorem fhall_bad_is {n : Nat} {bs : List Nat} (h : fhdef n bs ≠ 0) : fhall n bs = [fhdef n bs] := by unfold fhall; rw [if_neg h]
theorem fhall_asc (n : Nat) (bs : List Nat) : (fhall n bs).Pairwise (· < ·) := by
  unfold fhall
  split
  · exact fhbad_asc _ _ _ _ _
  · simp
theorem fhall_len (n : Nat) (bs : List Nat) : (fhall n bs).length ≤ 5 := by
  unfold fhall
  split
  · exact fhbad_len _ _ _ _ _
  · simp
theorem fhall_nine {n : Nat} {bs : List Nat} (h : fhdef n bs = 0) : 9 ∈ fhall n bs ↔ orest (wsum 0 (bs.take (4 * (bs.getD 0 0 % 16)))) ≠ 65535 := by
  unfold fhall
  rw [if_pos h, fhbad_nine]
  simp
/-- What a header that is read has. -/
theorem fhdef_zero {n : Nat} {bs : List Nat} (hd : fhdef n bs = 0) : n ≠ 0 ∧ bs.getD 0 0 / 16 = 4 ∧ ¬ n < 20 ∧ ¬ bs.getD 0 0 % 16 < 5 ∧ ¬ n < 4 * (bs.getD 0 0 % 16) := by
  unfold fhdef at hd
  split at hd
  · cases hd
  split at hd
  · cases hd
  split at hd
  · cases hd
  split at hd
  · cases hd
  split at hd
  · cases hd
  exact ⟨by assumption, Decidable.of_not_not (by assumption), by assumption, by assumption, by assumption⟩
theorem getD_set_self (l : List Nat) (k x : Nat) (h : k < l.length) : (l.set k x).getD k 0 = x := by
  simp [List.getD_eq_getElem?_getD, h]
theorem getD_set_far (l : List Nat) (k i x : Nat) (h : i ≠ k) : (l.set k x).getD i 0 = l.getD i 0 := by
  simp [List.getD_eq_getElem?_getD, List.getElem?_set_ne (Ne.symm h)]
theorem getD_take {l : List Nat} {k m : Nat} (h : k < m) : (l.take m).getD k 0 = l.getD k 0 := by
  simp [List.getD_eq_getElem?_getD, List.getElem?_take_of_lt h]
/-- A sealed header with one bit turned: it is read alike where the first byte is as it was; and where it is read alike its sum is wrong. -/
theorem turned_ranks {bs : List Nat} {n y k j : Nat} (hl : bs.length = n) (hb : ∀ x ∈ bs, x < 256) (hd : fhdef n bs = 0) (hy : y = bs.getD 0 0 % 16) (hk : k < 4 * y) (hj : j < 8) (S : List Nat) (hS : S = fhseal bs (4 * y)) :
    (k ≠ 0 → fhdef n (S.set k (xorBit (S.getD k 0) j)) = 0 ∧ (S.set k (xorBit (S.getD k 0) j)).getD 0 0 % 16 = y) ∧
    (fhdef n (S.set k (xorBit (S.getD k 0) j)) = 0 → (S.set k (xorBit (S.getD k 0) j)).getD 0 0 % 16 = y → 9 ∈ fhall n (S.set k (xorBit (S.getD k 0) j))) ∧ xorBit (S.getD k 0) j < 256 := by
  obtain ⟨z0, z1, z2, z3, z4⟩ := fhdef_zero hd
  rw [← hy] at z3 z4
  have hSl : S.length = n := by rw [hS]; exact fhseal_length bs n (4 * y) hl (by omega) (by omega)
  have hSb : ∀ x ∈ S, x < 256 := by rw [hS]; exact fhseal_byte _ hb
  have hS0 : S.getD 0 0 = bs.getD 0 0 := by rw [hS]; exact fhseal_same bs n (4 * y) 0 hl (by omega) (by omega) (by omega)
  have hx := xorBit_lt ⟨_, getD_byte hSb k⟩ ⟨j, hj⟩
  simp only at hx
  refine ⟨fun h0 => ?_, fun hd2 hy2 => ?_, hx⟩
  · have e : (S.set k (xorBit (S.getD k 0) j)).getD 0 0 = bs.getD 0 0 := by rw [getD_set_far _ _ _ _ (fun e => h0 e.symm), hS0]
    refine ⟨?_, by rw [e, hy]⟩
    unfold fhdef
    rw [e, if_neg z0, if_neg (by omega), if_neg z2, if_neg (by omega), if_neg (by omega)]
  · rw [fhall_nine hd2, hy2, List.take_set]
    have e : S.getD k 0 = (S.take (4 * y)).getD k 0 := (getD_take hk).symm
    rw [e]
    refine turned_bad (S.take (4 * y)) k j (by rw [List.length_take]; omega) ?_ hj (by rw [hS]; exact fhseal_good (by omega) (by omega))
    rw [← e]
    exact getD_byte hSb k
theorem u8_xor_bit (x j : Nat) (hx : x < 256) (hj : j < 8) : bits .xor .u8 (x : Int) ((2 ^ j : Nat) : Int) = ((xorBit x j : Nat) : Int) := by
  have key : (BitVec.ofInt 8 (x : Int) ^^^ BitVec.ofInt 8 ((2 ^ j : Nat) : Int)).toNat = xorBit x j := by
    have ht := two_pows hj
    rw [BitVec.toNat_xor, BitVec.toNat_ofInt, BitVec.toNat_ofInt]
    unfold xorBit
    congr 1 <;> omega
  have hl := xorBit_lt ⟨x, hx⟩ ⟨j, hj⟩
  simp only at hl
  show IntKind.u8.wrap ((BitVec.ofInt 8 (x : Int) ^^^ BitVec.ofInt 8 ((2 ^ j : Nat) : Int)).toNat : Nat) = _
  rw [key]
  show ((xorBit x j : Nat) : Int) % 256 = _
  omega
end Go.Proofs.Ytlopmkmcjcijcaa
