/-
  The contract of the document's Mul.
-/
import Derived.Test.YtemgnaalmgkfiaaRef2e
import Derived.Test.YtemgnaalmgkfiaaRof
import Derived.Test.YtemgnaalmgkfiaaWPlain3
namespace Go.Proofs.Ytemgnaalmgkfiaa
open Go.RowKit
set_option linter.unusedVariables false
attribute [local go_sem ↓] Go.wp_at_zero Go.wp_at_succ
attribute [local go_sem] World.cell?_alloc_some fcells_length run_storeCells_row Place.new Place.new2 Place.newOld Place.stored

/-- What stands while Mul goes: the result's place, the sum so far, the row of bits, the number doubled. -/
structure PInv (w : World) (g h b o x : Nat) (W : World) : Prop where
  res : W.heap[w.heap.size]? = some (.cells #[.int .u64 0, .int .u64 0] 42 (0, 0))
  out : W.heap[w.heap.size + 1]? = some (.cells #[.int .u64 (whi o : Nat), .int .u64 (wlo o : Nat)] 42 (0, 0))
  row : Bl W g (bit b)
  dbl : W.heap[h]? = some (.cells #[.int .u64 (whi x : Nat), .int .u64 (wlo x : Nat)] 42 (0, 0))
  below : Below w.heap.size w W
  g1 : w.heap.size + 1 < g
  h1 : g < h
theorem PInv.next {w W W' : World} {g h b o x : Nat} (hi : PInv w g h b o x W) (hb : Below W.heap.size W W') : PInv w g h b o x W' :=
  ⟨kept hi.res hb, kept hi.out hb, hi.row.below hb, kept hi.dbl hb, below_both hi.below hb, hi.g1, hi.h1⟩
theorem PInv.putOut {w W : World} {g h b o x : Nat} (hi : PInv w g h b o x W) (n : Nat) : PInv w g h b n x ((W.setCell ⟨w.heap.size + 1, 0, none⟩ (.int .u64 (whi n : Nat))).setCell ⟨w.heap.size + 1, 1, none⟩ (.int .u64 (wlo n : Nat))) := by
  have a1 := hi.g1
  have a2 := hi.h1
  have h1 := heap_setCell_same W (w.heap.size + 1) 0 _ _ (.int .u64 (whi n : Nat)) hi.out
  have h2 := heap_setCell_same _ (w.heap.size + 1) 1 _ _ (.int .u64 (wlo n : Nat)) h1
  refine ⟨(heap_setCell_other _ _ _ _ (by simp)).trans ((heap_setCell_other _ _ _ _ (by simp)).trans hi.res), h2, ?_, (heap_setCell_other _ _ _ _ (by simp; omega)).trans ((heap_setCell_other _ _ _ _ (by simp; omega)).trans hi.dbl),
    (hi.below.setCell (by simp) _).setCell (by simp) _, a1, a2⟩
  exact (hi.row.other _ _ (by show w.heap.size + 1 ≠ g; omega)).other _ _ (by show w.heap.size + 1 ≠ g; omega)
theorem PInv.putDbl {w W : World} {g h b o x : Nat} (hi : PInv w g h b o x W) (n : Nat) : PInv w g h b o n ((W.setCell ⟨h, 0, none⟩ (.int .u64 (whi n : Nat))).setCell ⟨h, 1, none⟩ (.int .u64 (wlo n : Nat))) := by
  have a1 := hi.g1
  have a2 := hi.h1
  have h1 := heap_setCell_same W h 0 _ _ (.int .u64 (whi n : Nat)) hi.dbl
  have h2 := heap_setCell_same _ h 1 _ _ (.int .u64 (wlo n : Nat)) h1
  refine ⟨(heap_setCell_other _ _ _ _ (by simp; omega)).trans ((heap_setCell_other _ _ _ _ (by simp; omega)).trans hi.res), (heap_setCell_other _ _ _ _ (by simp; omega)).trans ((heap_setCell_other _ _ _ _ (by simp; omega)).trans hi.out), ?_, h2,
    (hi.below.setCell (by simp; omega) _).setCell (by simp; omega) _, a1, a2⟩
  exact (hi.row.other _ _ (by show h ≠ g; omega)).other _ _ (by show h ≠ g; omega)
theorem prod_part_lt {a b k : Nat} (ha : a ≤ 18446744073709551615) (hb : b ≤ 18446744073709551615) : a * (b % 2 ^ k) < w128 := by
  have := Nat.mul_le_mul ha (Nat.le_trans (Nat.mod_le b (2 ^ k)) hb)
  unfold w128
  omega
theorem dbl_lt {a k : Nat} (ha : a ≤ 18446744073709551615) (hk : k ≤ 64) : a * 2 ^ k < w128 := by
  have := Nat.mul_le_mul ha (pow_le_64 hk)
  unfold w128
  omega
theorem part_more (a b k : Nat) (h : bit b k = 1) : a * (b % 2 ^ k) + a * 2 ^ k = a * (b % 2 ^ (k + 1)) := by rw [mod_succ, h, Nat.mul_one, Nat.mul_add]
theorem part_same (a b k : Nat) (h : bit b k = 0) : a * (b % 2 ^ k) = a * (b % 2 ^ (k + 1)) := by rw [mod_succ, h, Nat.mul_zero, Nat.add_zero]
theorem dbl_more (a k : Nat) : a * 2 ^ k + a * 2 ^ k = a * 2 ^ (k + 1) := by rw [pow_succ2, Nat.mul_left_comm]; omega

/-- Adding two numbers that are told by their values. -/
theorem radd_nums (A B S : Nat) (w : World) (hA : A < w128) (hB : B < w128) (hS : Hid (A + B = S)) :
    Calls Try.prog 31 #[.agg #[.int .u64 (whi A : Nat), .int .u64 (wlo A : Nat)], .agg #[.int .u64 (whi B : Nat), .int .u64 (wlo B : Nat)]] w fun e w' =>
      e = .returned (.tuple #[.agg #[.int .u64 (whi S : Nat), .int .u64 (wlo S : Nat)], .bool (decide (w128 ≤ S))]) ∧ Below w.heap.size w w' := by
  have := radd_any (whi A) (wlo A) (whi B) (wlo B) A B w (whi_le A) (wlo_le A) (whi_le B) (wlo_le B) (words_back hA) (words_back hB)
  rw [hS.out] at this
  exact this

set_option maxRecDepth 10000 in
set_option maxHeartbeats 3200000 in
theorem rmul_any (a b : Nat) (w : World) (ha : a ≤ 18446744073709551615) (hb : b ≤ 18446744073709551615) :
    Calls Try.prog 26 #[.int .u64 a, .int .u64 b] w fun e w' => e = .returned (.agg #[.int .u64 (whi (a * b) : Nat), .int .u64 (wlo (a * b) : Nat)]) ∧ Below w.heap.size w w' := by
  have HO := Lib.hid (fun (n : Nat) w => rof_any n w)
  have HB : Hid (∀ w, Calls Try.prog 40 #[.agg #[.int .u64 0, .int .u64 b]] w fun e w' => e = .returned (.agg (fcells (bit b)).toArray) ∧ Below w.heap.size w w') := fun w => by
    have := bits2_any 0 b w (by omega) hb
    rw [wnum_zero] at this
    exact this
  go_enter Try.func26, Try.ntmps26
  go_wp2_with fail
  refine (HO.out b _).mono ?_
  rintro e w1 ⟨rfl, b1⟩
  have B1 := Lib.hid b1
  clear b1
  go_wp2_with fail
  refine (HB.out _).mono ?_
  rintro e w2 ⟨rfl, b2⟩
  have B2 := Lib.hid (below_both B1.out b2)
  clear b2 B1
  go_wp2_with fail
  refine (HO.out a _).mono ?_
  rintro e w3 ⟨rfl, b3⟩
  have B3 := Lib.hid b3
  clear b3
  go_wp2_with fail
  have HP : Hid (PInv w w2.heap.size w3.heap.size b (a * (b % 2 ^ 0)) (a * 2 ^ 0) (w3.alloc (.cells #[.int .u64 0, .int .u64 a] 42))) := by
    have d4 := below_stored (g := w2.heap.size) (B2.out.size) (B2.out.alloc B2.out.size (.cells Try.zeroCells70 70)) (bit b)
    have d5 := below_both d4 B3.out
    have d6 := d5.alloc d5.size (.cells #[.int .u64 0, .int .u64 a] 42)
    have s2 := B2.out.size
    have s3 := B3.out.size
    have r3 := (Place.into (Place.new w2) (bit b)).below B3.out
    have lt3 := r3.lt
    simp at s2
    show PInv _ _ _ _ _ _ _
    refine ⟨kept (heap_alloc2_old w _ _) d6, ?_, r3.alloc _, ?_, (below_two w _ _).trans (d6.mono (by simp; omega)), by omega, lt3⟩
    · rw [Nat.pow_zero, Nat.mod_one, Nat.mul_zero]
      exact kept (heap_alloc2_new w _ _) d6
    · rw [Nat.pow_zero, Nat.mul_one]
      have e1 : whi a = 0 := by unfold whi; omega
      have e2 : wlo a = a := by unfold wlo; omega
      rw [e1, e2]
      exact heap_alloc_new w3 _
  generalize w3.alloc (.cells #[.int .u64 0, .int .u64 a] 42) = w4 at *
  generalize w3.heap.size = h at *
  generalize w2.heap.size = g at *
  clear B2 B3 HO HB
  go_loopw [8] (fun i wr => ∃ k : Nat, k ≤ 64 ∧ i = .int .i64 k ∧ Hid (PInv w g h b (a * (b % 2 ^ k)) (a * 2 ^ k) wr)) (fun i _ => (64 - intOf i).toNat)
  case atStart => exact ⟨0, by omega, rfl, HP⟩
  case round =>
    clear HP
    obtain ⟨k, hk, rfl, HP⟩ := hrel
    have o0 := cell_of_row wr _ 0 _ _ _ HP.out.out
    have o1 := cell_of_row wr _ 1 _ _ _ HP.out.out
    have x0 := cell_of_row wr _ 0 _ _ _ HP.out.dbl
    have x1 := cell_of_row wr _ 1 _ _ _ HP.out.dbl
    simp at o0 o1 x0 x1
    have fo0 := frozen_of_row wr _ 0 _ _ HP.out.out
    have fo1 := frozen_of_row wr _ 1 _ _ HP.out.out
    have fx0 := frozen_of_row wr _ 0 _ _ HP.out.dbl
    have fx1 := frozen_of_row wr _ 1 _ _ HP.out.dbl
    by_cases hlt : k < 64
    · have d1 := HP.out.row.cell k (by omega)
      have i0 : (0 : Int) ≤ (k : Int) := by omega
      have i1 : (k : Int) < 128 := by omega
      have i2 : (k : Int) < 64 := by omega
      have C2 := Lib.hid (fun w => radd_nums (a * 2 ^ k) (a * 2 ^ k) (a * 2 ^ (k + 1)) w (dbl_lt ha (by omega)) (dbl_lt ha (by omega)) (dbl_more a k))
      have HK := Lib.hid hlt
      have hbit := bit_le b k
      by_cases hv : bit b k = 1
      · rw [hv] at d1
        have C1 := Lib.hid (fun w => radd_nums (a * (b % 2 ^ k)) (a * 2 ^ k) (a * (b % 2 ^ (k + 1))) w (prod_part_lt ha hb) (dbl_lt ha (by omega)) (part_more a b k hv))
        clear hv hbit hk hlt
        simp at d1
        go_wp2_with fail
        refine (C1.out _).mono ?_
        rintro e w5 ⟨rfl, b5⟩
        clear o0 o1 x0 x1 fo0 fo1 fx0 fx1 d1 C1
        have HP := Lib.hid (HP.out.next b5)
        clear b5
        have o0 := cell_of_row w5 _ 0 _ _ _ HP.out.out
        have o1 := cell_of_row w5 _ 1 _ _ _ HP.out.out
        have x0 := cell_of_row w5 _ 0 _ _ _ HP.out.dbl
        have x1 := cell_of_row w5 _ 1 _ _ _ HP.out.dbl
        simp at o0 o1 x0 x1
        have fo0 := frozen_of_row w5 _ 0 _ _ HP.out.out
        have fo1 := frozen_of_row w5 _ 1 _ _ HP.out.out
        have fx0 := frozen_of_row w5 _ 0 _ _ HP.out.dbl
        have fx1 := frozen_of_row w5 _ 1 _ _ HP.out.dbl
        have HQ := Lib.hid (HP.out.putOut (a * (b % 2 ^ (k + 1))))
        have hne : ¬ h = w.heap.size + 1 := by have := HP.out.g1; have := HP.out.h1; omega
        go_wp2_with fail
        clear o0 o1 x0 x1 fo0 fo1 fx0 fx1 hne HP
        generalize ((w5.setCell ⟨w.heap.size + 1, 0, none⟩ (.int .u64 (whi (a * (b % 2 ^ (k + 1))) : Nat))).setCell ⟨w.heap.size + 1, 1, none⟩ (.int .u64 (wlo (a * (b % 2 ^ (k + 1))) : Nat))) = w7 at *
        refine (C2.out _).mono ?_
        rintro e w6 ⟨rfl, b6⟩
        have HP := Lib.hid (HQ.out.next b6)
        clear b6 HQ
        have o0 := cell_of_row w6 _ 0 _ _ _ HP.out.out
        have o1 := cell_of_row w6 _ 1 _ _ _ HP.out.out
        have x0 := cell_of_row w6 _ 0 _ _ _ HP.out.dbl
        have x1 := cell_of_row w6 _ 1 _ _ _ HP.out.dbl
        simp at o0 o1 x0 x1
        have fo0 := frozen_of_row w6 _ 0 _ _ HP.out.out
        have fo1 := frozen_of_row w6 _ 1 _ _ HP.out.out
        have fx0 := frozen_of_row w6 _ 0 _ _ HP.out.dbl
        have fx1 := frozen_of_row w6 _ 1 _ _ HP.out.dbl
        go_wp2_with fail
        go_roundw
        case rel => exact ⟨k + 1, by have := HK.out; omega, by go_num, HP.out.putDbl (a * 2 ^ (k + 1))⟩
        case measure => simp [intOf]; have := HK.out; omega
      · have hv0 : bit b k = 0 := by omega
        rw [hv0] at d1
        have HP : Hid (PInv w g h b (a * (b % 2 ^ (k + 1))) (a * 2 ^ k) wr) := by rw [← part_same a b k hv0]; exact HP
        clear hv hv0 hbit hk hlt
        simp at d1
        go_wp2_with fail
        refine (C2.out _).mono ?_
        rintro e w6 ⟨rfl, b6⟩
        clear o0 o1 x0 x1 fo0 fo1 fx0 fx1 d1
        have HP := Lib.hid (HP.out.next b6)
        clear b6
        have o0 := cell_of_row w6 _ 0 _ _ _ HP.out.out
        have o1 := cell_of_row w6 _ 1 _ _ _ HP.out.out
        have x0 := cell_of_row w6 _ 0 _ _ _ HP.out.dbl
        have x1 := cell_of_row w6 _ 1 _ _ _ HP.out.dbl
        simp at o0 o1 x0 x1
        have fo0 := frozen_of_row w6 _ 0 _ _ HP.out.out
        have fo1 := frozen_of_row w6 _ 1 _ _ HP.out.out
        have fx0 := frozen_of_row w6 _ 0 _ _ HP.out.dbl
        have fx1 := frozen_of_row w6 _ 1 _ _ HP.out.dbl
        go_wp2_with fail
        go_roundw
        case rel => exact ⟨k + 1, by have := HK.out; omega, by go_num, HP.out.putDbl (a * 2 ^ (k + 1))⟩
        case measure => simp [intOf]; have := HK.out; omega
    · obtain rfl : k = 64 := by omega
      clear hk hlt
      have e64 : b % 2 ^ 64 = b := Nat.mod_eq_of_lt (by omega)
      have HE := Lib.hid e64
      clear e64
      have hres := HP.out.res
      have q0 := cell_of_row wr _ 0 _ _ _ hres
      have q1 := cell_of_row wr _ 1 _ _ _ hres
      have fr0 := frozen_of_row wr _ 0 _ _ hres
      have fr1 := frozen_of_row wr _ 1 _ _ hres
      rw [HE.out] at o0 o1
      have h1 := heap_setCell_same wr w.heap.size 0 _ _ (.int .u64 (whi (a * b) : Nat)) hres
      have h2 := heap_setCell_same _ w.heap.size 1 _ _ (.int .u64 (wlo (a * b) : Nat)) h1
      have hl : (Go.loadVar 42 ⟨w.heap.size, 0, none⟩).run Try.prog ((wr.setCell ⟨w.heap.size, 0, none⟩ (.int .u64 (whi (a * b) : Nat))).setCell ⟨w.heap.size, 1, none⟩ (.int .u64 (wlo (a * b) : Nat))) = .ok (.agg #[.int .u64 (whi (a * b) : Nat), .int .u64 (wlo (a * b) : Nat)]) _ := wide_load h2
      have HLD := Lib.hid hl
      have HB := Lib.hid ((HP.out.below.setCell (p := ⟨w.heap.size, 0, none⟩) (by simp) (.int .u64 (whi (a * b) : Nat))).setCell (p := ⟨w.heap.size, 1, none⟩) (by simp) (.int .u64 (wlo (a * b) : Nat)))
      simp at q0 q1
      clear h1 h2 hl hres fo0 fo1 fx0 fx1 x0 x1
      go_wp2_with fail
      exact bodyPost_ret (results_cell_is Try.results26 rfl HLD.out) rfl ⟨rfl, HB.out⟩
end Go.Proofs.Ytemgnaalmgkfiaa
