/-
  Plain facts of headers of version 6: what was written is read, what is read is written, and what is behind the packet is nothing to it.
-/
import Derived.Test.YtcjaidpmfjnhpaaRSx2
import Derived.Test.YtcjaidpmfjnhpaaSxEq
namespace Go.Proofs.Ytcjaidpmfjnhpaa
open Go.RowKit
set_option linter.unusedVariables false

/-- The fields that bytes tell. -/
def sixOf (bs : List Nat) : SixV := ⟨fun j => (sxN (be (bs.take 8)) j : Nat), (bs.drop 8).take 16, (bs.drop 24).take 16⟩
def sixZero : SixV := ⟨fun _ => 0, List.replicate 16 0, List.replicate 16 0⟩
theorem sixOf_cells (bs : List Nat) : (sixOf bs).cells = sxF bs := rfl
theorem sixZero_cells : sixZero.cells = sxZ := rfl
theorem sxdef_forty {n : Nat} {bs : List Nat} (h : sxdef n bs = 0) : 40 ≤ n ∧ bs.getD 0 0 / 16 = 6 := by
  unfold sxdef at h
  split at h
  · cases h
  · split at h
    · cases h
    · rename_i h6
      split at h
      · cases h
      · exact ⟨by omega, Decidable.of_not_not h6⟩
theorem sxdef_zero {n : Nat} {bs : List Nat} (h : 40 ≤ n) (h6 : bs.getD 0 0 / 16 = 6) : sxdef n bs = 0 := by
  unfold sxdef
  rw [if_neg (by omega), if_neg (fun e => e h6), if_neg (by omega)]
theorem sixOf_ok {n : Nat} {bs : List Nat} (hl : bs.length = n) (hb : ∀ x ∈ bs, x < 256) (h : 40 ≤ n) : (sixOf bs).src.length = 16 ∧ (sixOf bs).dst.length = 16 ∧ (∀ x ∈ (sixOf bs).src, x < 256) ∧ (∀ x ∈ (sixOf bs).dst, x < 256) ∧ ∀ j, -9223372036854775808 ≤ (sixOf bs).k j ∧ (sixOf bs).k j ≤ 9223372036854775807 :=
  ⟨part_len hl (by omega), part_len hl (by omega), fun x hx => hb x (List.mem_of_mem_drop (List.mem_of_mem_take hx)), fun x hx => hb x (List.mem_of_mem_drop (List.mem_of_mem_take hx)), fun j => by
    have h2 := sxN_le (be (bs.take 8)) j
    show -9223372036854775808 ≤ ((sxN (be (bs.take 8)) j : Nat) : Int) ∧ ((sxN (be (bs.take 8)) j : Nat) : Int) ≤ 9223372036854775807
    omega⟩
theorem sxval_same {n : Nat} {bs : List Nat} (hl : bs.length = n) (hb : ∀ x ∈ bs, x < 256) (w : World) : (Op.equalIn 10000 51 (.agg (sxval n bs).toArray) (.agg (sxval n bs).toArray)).run Try.prog w = .ok true w := by
  unfold sxval
  split
  · rename_i h
    obtain ⟨h1, h2, h3, h4, h5⟩ := sixOf_ok hl hb (sxdef_forty h).1
    exact six_same (f := sixOf bs) h1 h2 h3 h4 h5 w
  · exact six_same (f := sixZero) rfl rfl (by decide) (by decide) (fun j => by show (-9223372036854775808 : Int) ≤ 0 ∧ (0 : Int) ≤ 9223372036854775807; decide) w
theorem sxdef_le (n : Nat) (bs : List Nat) : sxdef n bs ≤ 3 := by
  unfold sxdef
  split
  · decide
  · split
    · decide
    · split <;> decide
theorem sxall_len (n : Nat) (bs : List Nat) : (sxall n bs).length ≤ 5 := by
  unfold sxall
  split
  · simp
  · split
    · simp
    · exact (defects_asc _).2.2
theorem sxrest_small {n : Nat} {bs : List Nat} : ((sxrest n bs).getD []).length ≤ 65535 := by
  cases h : sxrest n bs with
  | none => simp
  | some r => exact (sxrest_len h).1
theorem sxrest_some {n : Nat} {bs r : List Nat} (hl : bs.length = n) (h : sxrest n bs = some r) : sxdef n bs = 0 ∧ 40 + sxPay bs ≤ n ∧ r = (bs.drop 40).take (sxPay bs) ∧ r.length = sxPay bs := by
  unfold sxrest at h
  split at h
  · rename_i h2
    injection h with h
    refine ⟨h2.1, h2.2, h.symm, ?_⟩
    rw [← h, List.length_take, List.length_drop, hl]
    omega
  · cases h
theorem sxrest_none {n : Nat} {bs : List Nat} (h : sxrest n bs = none) (h0 : sxdef n bs = 0) : ¬ 40 + sxPay bs ≤ n := fun e => by
  unfold sxrest at h
  rw [if_pos ⟨h0, e⟩] at h
  cases h
theorem getD_head {bs ms : List Nat} (h : 0 < bs.length) : (bs ++ ms).getD 0 0 = bs.getD 0 0 := by
  cases bs with
  | nil => simp at h
  | cons x l => rfl
theorem sx_more {n m : Nat} {bs ms r : List Nat} (hl : bs.length = n) (h : sxrest n bs = some r) : sxrest (n + m) (bs ++ ms) = some r ∧ sxall (n + m) (bs ++ ms) = sxall n bs := by
  obtain ⟨h0, hp, hr, hrl⟩ := sxrest_some hl h
  obtain ⟨h40, h6⟩ := sxdef_forty h0
  have t8 : (bs ++ ms).take 8 = bs.take 8 := List.take_append_of_le_length (by omega)
  have d0 : sxdef (n + m) (bs ++ ms) = 0 := sxdef_zero (by omega) (by rw [getD_head (by omega)]; exact h6)
  have pp : sxPay (bs ++ ms) = sxPay bs := by unfold sxPay; rw [t8]
  have nn : sxNext (bs ++ ms) = sxNext bs := by unfold sxNext; rw [t8]
  have hR : sxrest (n + m) (bs ++ ms) = some r := by
    unfold sxrest
    rw [pp, if_pos ⟨d0, by omega⟩, hr, List.drop_append_of_le_length (by omega), List.take_append_of_le_length (by rw [List.length_drop]; omega)]
  refine ⟨hR, ?_⟩
  unfold sxall
  rw [if_neg (fun e => e d0), if_neg (fun e => e h0), hR, h, nn]
theorem sx_fits {f : SixV} (h : f.fitsTo 5 = true) : ∃ a0 a1 a2 a3 a4 : Nat, f.k 0 = a0 ∧ f.k 1 = a1 ∧ f.k 2 = a2 ∧ f.k 3 = a3 ∧ f.k 4 = a4 ∧ a0 ≤ 255 ∧ a1 ≤ 1048575 ∧ a2 ≤ 65535 ∧ a3 ≤ 255 ∧ a4 ≤ 255 := by
  have hFT : f.fitsTo 5 = (((((true && decide (0 ≤ f.k 0 ∧ f.k 0 < 2 ^ 8)) && decide (0 ≤ f.k 1 ∧ f.k 1 < 2 ^ 20)) && decide (0 ≤ f.k 2 ∧ f.k 2 < 2 ^ 16)) && decide (0 ≤ f.k 3 ∧ f.k 3 < 2 ^ 8)) && decide (0 ≤ f.k 4 ∧ f.k 4 < 2 ^ 8)) := rfl
  rw [hFT] at h
  simp only [Bool.and_eq_true, decide_eq_true_eq, Int.reducePow, true_and] at h
  obtain ⟨⟨⟨⟨⟨l0, u0⟩, l1, u1⟩, l2, u2⟩, l3, u3⟩, l4, u4⟩ := h
  exact ⟨_, _, _, _, _, (Int.toNat_of_nonneg l0).symm, (Int.toNat_of_nonneg l1).symm, (Int.toNat_of_nonneg l2).symm, (Int.toNat_of_nonneg l3).symm, (Int.toNat_of_nonneg l4).symm, by omega, by omega, by omega, by omega, by omega⟩
theorem sx_nums_back (a0 a1 a2 a3 a4 x : Nat) (hx : x = 6 * 2 ^ 60 + a0 * 2 ^ 52 + a1 * 2 ^ 32 + a2 * 2 ^ 16 + a3 * 2 ^ 8 + a4) (h0 : a0 ≤ 255) (h1 : a1 ≤ 1048575) (h2 : a2 ≤ 65535) (h3 : a3 ≤ 255) (h4 : a4 ≤ 255) : sxN x 0 = a0 ∧ sxN x 1 = a1 ∧ sxN x 2 = a2 ∧ sxN x 3 = a3 ∧ sxN x 4 = a4 := by
  simp only [Nat.reducePow, Nat.reduceMul] at hx
  simp only [sxN, Nat.reducePow]
  omega
/-- What was written is read again. -/
theorem sx_written {f : SixV} (hf : f.fitsTo 5 = true) (hs : f.src.length = 16) (hd : f.dst.length = 16) {n : Nat} {bs : List Nat} (hl : bs.length = n) : (f.bytes ++ bs).length = 40 + n ∧ sxdef (40 + n) (f.bytes ++ bs) = 0 ∧ sxval (40 + n) (f.bytes ++ bs) = f.cells := by
  obtain ⟨a0, a1, a2, a3, a4, e0, e1, e2, e3, e4, h0, h1, h2, h3, h4⟩ := sx_fits hf
  have hb : f.bytes.length = 40 := by unfold SixV.bytes; rw [List.length_append, List.length_append, pb_length, hs, hd]
  have hacc := sx_acc f a0 a1 a2 a3 a4 e0 e1 e2 e3 e4 ⟨h0, h1, h2, h3, h4⟩
  have hhead := sx_head a0 a1 a2 a3 a4 ⟨h0, h1, h2, h3, h4⟩
  have t8 : (f.bytes ++ bs).take 8 = pb (f.acc 5) 8 := by
    unfold SixV.bytes
    rw [List.append_assoc, List.append_assoc, List.take_left' (pb_length _ _)]
  have hbe : be ((f.bytes ++ bs).take 8) = f.acc 5 := by
    rw [t8, be_pb]
    exact Nat.mod_eq_of_lt (Nat.lt_of_le_of_lt (SixV.acc_lt f 5) (by decide))
  have hg0 : (f.bytes ++ bs).getD 0 0 = 96 + a0 / 16 := by
    unfold SixV.bytes
    rw [hacc, hhead]
    rfl
  have hdef : sxdef (40 + n) (f.bytes ++ bs) = 0 := sxdef_zero (by omega) (by rw [hg0]; omega)
  refine ⟨by rw [List.length_append, hb, hl], hdef, ?_⟩
  unfold sxval
  rw [if_pos hdef]
  unfold sxF SixV.cells
  obtain ⟨n0, n1, n2, n3, n4⟩ := sx_nums_back a0 a1 a2 a3 a4 (f.acc 5) hacc h0 h1 h2 h3 h4
  have hS : ((f.bytes ++ bs).drop 8).take 16 = f.src := by
    unfold SixV.bytes
    rw [List.append_assoc, List.append_assoc, List.drop_left' (pb_length _ _), List.take_left' hs]
  have hD : ((f.bytes ++ bs).drop 24).take 16 = f.dst := by
    unfold SixV.bytes
    rw [List.append_assoc, List.drop_left' (by rw [List.length_append, pb_length, hs]), List.take_left' hd]
  rw [hS, hD, hbe]
  unfold sxNums
  rw [n0, n1, n2, n3, n4, e0, e1, e2, e3, e4]
theorem sx_head_back (b0 b1 b2 b3 b4 b5 b6 b7 x : Nat) (hx : x = ((((((b0 * 256 + b1) * 256 + b2) * 256 + b3) * 256 + b4) * 256 + b5) * 256 + b6) * 256 + b7) (h0 : b0 < 256) (h1 : b1 < 256) (h2 : b2 < 256) (h3 : b3 < 256) (h4 : b4 < 256) (h5 : b5 < 256) (h6 : b6 < 256) (h7 : b7 < 256) (h : b0 / 16 = 6) :
    head8 (sxN x 0) (sxN x 1) (sxN x 2) (sxN x 3) (sxN x 4) = [b0, b1, b2, b3, b4, b5, b6, b7] := by
  unfold head8
  simp only [sxN, Nat.reducePow]
  have e0 : 96 + x / 4503599627370496 % 256 / 16 = b0 := by omega
  have e1 : x / 4503599627370496 % 256 % 16 * 16 + x / 4294967296 % 1048576 / 65536 = b1 := by omega
  have e2 : x / 4294967296 % 1048576 / 256 % 256 = b2 := by omega
  have e3 : x / 4294967296 % 1048576 % 256 = b3 := by omega
  have e4 : x / 65536 % 65536 / 256 = b4 := by omega
  have e5 : x / 65536 % 65536 % 256 = b5 := by omega
  have e6 : x / 256 % 256 = b6 := by omega
  have e7 : x / 1 % 256 = b7 := by omega
  rw [e0, e1, e2, e3, e4, e5, e6, e7]
/-- What is read is written as it was. -/
theorem sx_rewritten {n : Nat} {bs : List Nat} (hl : bs.length = n) (hb : ∀ x ∈ bs, x < 256) (h : sxdef n bs = 0) : (sixOf bs).fitsTo 5 = true ∧ (sixOf bs).bytes = bs.take 40 := by
  obtain ⟨h40, h6⟩ := sxdef_forty h
  have hx0 : sxN (be (bs.take 8)) 0 ≤ 255 := Nat.le_of_lt_succ (Nat.mod_lt _ (by decide))
  have hx1 : sxN (be (bs.take 8)) 1 ≤ 1048575 := Nat.le_of_lt_succ (Nat.mod_lt _ (by decide))
  have hx2 : sxN (be (bs.take 8)) 2 ≤ 65535 := Nat.le_of_lt_succ (Nat.mod_lt _ (by decide))
  have hx3 : sxN (be (bs.take 8)) 3 ≤ 255 := Nat.le_of_lt_succ (Nat.mod_lt _ (by decide))
  have hx4 : sxN (be (bs.take 8)) 4 ≤ 255 := Nat.le_of_lt_succ (Nat.mod_lt _ (by decide))
  have hfit : (sixOf bs).fitsTo 5 = true := by
    have hFT : (sixOf bs).fitsTo 5 = (((((true && decide (0 ≤ (sixOf bs).k 0 ∧ (sixOf bs).k 0 < 2 ^ 8)) && decide (0 ≤ (sixOf bs).k 1 ∧ (sixOf bs).k 1 < 2 ^ 20)) && decide (0 ≤ (sixOf bs).k 2 ∧ (sixOf bs).k 2 < 2 ^ 16)) && decide (0 ≤ (sixOf bs).k 3 ∧ (sixOf bs).k 3 < 2 ^ 8)) && decide (0 ≤ (sixOf bs).k 4 ∧ (sixOf bs).k 4 < 2 ^ 8)) := rfl
    rw [hFT]
    simp only [Bool.and_eq_true, decide_eq_true_eq, Int.reducePow, true_and]
    have e : ∀ j, (sixOf bs).k j = ((sxN (be (bs.take 8)) j : Nat) : Int) := fun j => rfl
    rw [e, e, e, e, e]
    omega
  refine ⟨hfit, ?_⟩
  have hacc := sx_acc (sixOf bs) _ _ _ _ _ rfl rfl rfl rfl rfl ⟨hx0, hx1, hx2, hx3, hx4⟩
  have hhead := sx_head _ _ _ _ _ ⟨hx0, hx1, hx2, hx3, hx4⟩
  have gb := fun k => getD_byte hb k
  have e8 : be (bs.take 8) = ((((((bs.getD 0 0 * 256 + bs.getD 1 0) * 256 + bs.getD 2 0) * 256 + bs.getD 3 0) * 256 + bs.getD 4 0) * 256 + bs.getD 5 0) * 256 + bs.getD 6 0) * 256 + bs.getD 7 0 := by
    rw [be_step _ 7 (by omega), be_step _ 6 (by omega), be_step _ 5 (by omega), be_step _ 4 (by omega), be_step _ 3 (by omega), be_step _ 2 (by omega), be_step _ 1 (by omega), be_step _ 0 (by omega), List.take_zero, be_nil]
    omega
  have hh := sx_head_back _ _ _ _ _ _ _ _ _ e8 (gb 0) (gb 1) (gb 2) (gb 3) (gb 4) (gb 5) (gb 6) (gb 7) h6
  have t8 : bs.take 8 = [bs.getD 0 0, bs.getD 1 0, bs.getD 2 0, bs.getD 3 0, bs.getD 4 0, bs.getD 5 0, bs.getD 6 0, bs.getD 7 0] := by
    rw [take_succ_getD bs 7 (by omega), take_succ_getD bs 6 (by omega), take_succ_getD bs 5 (by omega), take_succ_getD bs 4 (by omega), take_succ_getD bs 3 (by omega), take_succ_getD bs 2 (by omega), take_succ_getD bs 1 (by omega), take_succ_getD bs 0 (by omega), List.take_zero]
    rfl
  unfold SixV.bytes
  rw [hacc, hhead, hh, ← t8]
  show bs.take 8 ++ (bs.drop 8).take 16 ++ (bs.drop 24).take 16 = bs.take 40
  have k1 : bs.take 24 = bs.take 8 ++ (bs.drop 8).take 16 := List.take_add (i := 8) (j := 16)
  have k2 : bs.take 40 = bs.take 24 ++ (bs.drop 24).take 16 := List.take_add (i := 24) (j := 16)
  rw [k2, k1]
theorem sixOf_val {n : Nat} {bs : List Nat} (h : sxdef n bs = 0) : sxval n bs = (sixOf bs).cells := by
  unfold sxval
  rw [if_pos h]
  rfl
end Go.Proofs.Ytcjaidpmfjnhpaa
