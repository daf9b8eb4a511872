/-
  The contract of the document's Mul.
-/
import Derived.Test.YtpalnlbdfmiadaaGreatDoorRef2e
import Derived.Test.YtpalnlbdfmiadaaGreatDoorRof
import Derived.Test.YtpalnlbdfmiadaaGreatDoorWPlain3
namespace Go.Proofs.YtpalnlbdfmiadaaGreatDoor
open Go.RowKit
set_option linter.unusedVariables false
attribute [local go_sem ↓] Go.wp_at_zero Go.wp_at_succ
attribute [local go_sem] World.cell?_alloc_some fcells_length run_storeCells_row Place.new Place.new2 Place.newOld Place.stored

/-- What stands while Mul goes: the result's place, the sum so far, the row of bits, the number doubled. -/
structure PInv (w : World) (g h b o x : Nat) (W : World) : Prop where
  res : W.heap[w.heap.size]? = some (.cells #[.int .u64 0, .int .u64 0] 43 (0, 0))
  out : W.heap[w.heap.size + 1]? = some (.cells #[.int .u64 (whi o : Nat), .int .u64 (wlo o : Nat)] 43 (0, 0))
  row : Bl W g (bit b)
  dbl : W.heap[h]? = some (.cells #[.int .u64 (whi x : Nat), .int .u64 (wlo x : Nat)] 43 (0, 0))
  below : Below w.heap.size w W
  g1 : w.heap.size + 1 < g
  h1 : g < h
theorem PInv.next {w W W' : World} {g h b o x : Nat} (hi : PInv w g h b o x W) (hb : Below W.heap.size W W') : PInv w g h b o x W' :=
  ⟨kept hi.res hb, kept hi.out hb, hi.row.below hb, kept hi.dbl hb, below_both hi.below hb, hi.g1, hi.h1⟩
theorem PInv.putOut {w W : World} {g h b o x : Nat} (hi : PInv w g h b o x W) (n : Nat) : PInv w g h b n x ((W.setCell ⟨w.heap.size + 1, 0, none⟩ (.int .u64 (whi n : Nat))).setCell ⟨w.heap.size + 1, 1, none⟩ (.int .u64 (wlo n : Nat))) := by
  have a1 := hi.g1
  have a2 := hi.h1
  have h1 := heap_setCell_same W (w.heap.size + 1) 0 _ _ (.int .u64 (whi n : Nat)) hi.out
  have h2 := heap_setCell_same _ (w.heap.size + 1) 1 _ _ (.int .u64 (wlo n : Nat)) h1
  refine ⟨(heap_setCell_other _ _ _ _ (by simp)).trans ((heap_setCell_other _ _ _ _ (by simp)).trans hi.res), h2, ?_, (heap_setCell_other _ _ _ _ (by simp; omega)).trans ((heap_setCell_other _ _ _ _ (by simp; omega)).trans hi.dbl),
    (hi.below.setCell (by simp) _).setCell (by simp) _, a1, a2⟩
  exact (hi.row.other _ _ (by show w.heap.size + 1 ≠ g; omega)).other _ _ (by show w.heap.size + 1 ≠ g; omega)
theorem PInv.putDbl {w W : World} {g h b o x : Nat} (hi : PInv w g h b o x W) (n : Nat) : PInv w g h b o n ((W.setCell ⟨h, 0, none⟩ (.int .u64 (whi n : Nat))).setCell ⟨h, 1, none⟩ (.int .u64 (wlo n : Nat))) := by
  have a1 := hi.g1
  have a2 := hi.h1
  have h1 := heap_setCell_same W h 0 _ _ (.int .u64 (whi n : Nat)) hi.dbl
  have h2 := heap_setCell_same _ h 1 _ _ (.int .u64 (wlo n : Nat)) h1
  refine ⟨(heap_setCell_other _ _ _ _ (by simp; omega)).trans ((heap_setCell_other _ _ _ _ (by simp; omega)).trans hi.res), (heap_setCell_other _ _ _ _ (by simp; omega)).trans ((heap_setCell_other _ _ _ _ (by simp; omega)).trans hi.out), ?_, h2,
    (hi.below.setCell (by simp; omega) _).setCell (by simp; omega) _, a1, a2⟩
  exact (hi.row.other _ _ (by show h ≠ g; omega)).other _ _ (by show h ≠ g; omega)
theorem prod_part_lt {a b k : Nat} (ha : a ≤ 18446744073709551615) (hb : b ≤ 18446744073709551615) : a * (b % 2 ^ k) < w128 := by
  have := Nat.mul_le_mul ha (Nat.le_trans (Nat.mod_le b (2 ^ k)) hb)
  unfold w128
  omega
theorem dbl_lt {a k : Nat} (ha : a ≤ 18446744073709551615) (hk : k ≤ 64) : a * 2 ^ k < w128 := by
  have := Nat.mul_le_mul ha (pow_le_64 hk)
  unfold w128
  omega
theorem part_more (a b k : Nat) (h : bit b k = 1) : a * (b % 2 ^ k) + a * 2 ^ k = a * (b % 2 ^ (k + 1)) := by rw [mod_succ, h, Nat.mul_one, Nat.mul_add]
theorem part_same (a b k : Nat) (h : bit b k = 0) : a * (b % 2 ^ k) = a * (b % 2 ^ (k + 1)) := by rw [mod_succ, h, Nat.mul_zero, Nat.add_zero]
theorem dbl_more (a k : Nat) : a * 2 ^ k + a * 2 ^ k = a * 2 ^ (k + 1) := by rw [pow_succ2, Nat.mul_left_comm]; omega

/-- Adding two numbers that are told by their values. -/
theorem radd_nums (A B S : Nat) (w : World) (hA : A < w128) (hB : B < w128) (hS : Hid (A + B = S)) :
    Calls Tryz.prog 39 #[.agg #[.int .u64 (whi A : Nat), .int .u64 (wlo A : Nat)], .agg #[.int .u64 (whi B : Nat), .int .u64 (wlo B : Nat)]] w fun e w' =>
      e = .returned (.tuple #[.agg #[.int .u64 (whi S : Nat), .int .u64 (wlo S : Nat)], .bool (decide (w128 ≤ S))]) ∧ Below w.heap.size w w' := by
  have := radd_any (whi A) (wlo A) (whi B) (wlo B) A B w (whi_le A) (wlo_le A) (whi_le B) (wlo_le B) (words_back hA) (words_back hB)
  rw [hS.out] at this
  exact this

end Go.Proofs.YtpalnlbdfmiadaaGreatDoor
