/-
  Contracts of the document's Cap and Text.
-/
import Derived.Test.YtdeehkhdmohalaaRef2i
import Derived.Test.YtdeehkhdmohalaaLive2
namespace Go.Proofs.Ytdeehkhdmohalaa
open Go.RowKit
set_option linter.unusedVariables false
attribute [local go_sem ↓] Go.wp_at_zero Go.wp_at_succ

theorem rcap_less (a b m : Nat) (w : World) (ha : a ≤ 18446744073709551615) (hb : b ≤ 18446744073709551615) (hm : m ≤ 18446744073709551615) (h : Hid (wnum a b < m)) :
    Calls Try.prog 38 #[.agg #[.int .u64 a, .int .u64 b], .int .u64 m] w fun e w' => e = .returned (.int .u64 b) ∧ Below w.heap.size w w' := by
  have HL : Hid (∀ w : World, Calls Try.prog 46 #[.agg #[.int .u64 a, .int .u64 b], .agg #[.int .u64 0, .int .u64 m]] w fun e w' => e = .returned (.bool true) ∧ Below w.heap.size w w') := fun w => by
    have := rless_any a b 0 m (wnum a b) m w ha hb (by decide) hm rfl (wnum_zero m).symm
    rw [decide_eq_true h.out] at this
    exact this
  have K := Lib.hid (Boxed.start w a b)
  have c0 := K.out.1
  have c1 := K.out.2.1
  simp at c0 c1
  go_enter Try.func38, Try.ntmps38
  go_wp2_with fail
  go_region_with (first
    | ((with_reducible refine (rof_any _ _).mono ?_); rintro e w' ⟨rfl, hb'⟩; have K := Lib.hid (K.out.drew.below hb'); have c0 := K.out.1; have c1 := K.out.2.1)
    | ((with_reducible refine (HL.out _).mono ?_); rintro e w' ⟨rfl, hb'⟩; have K := Lib.hid (K.out.below hb'); have c0 := K.out.1; have c1 := K.out.2.1)
    | fail)
  all_goals
    go_wp2
    go_ret
    exact ⟨rfl, K.out.2.2⟩
theorem rcap_most (a b m : Nat) (w : World) (ha : a ≤ 18446744073709551615) (hb : b ≤ 18446744073709551615) (hm : m ≤ 18446744073709551615) (h : Hid (¬ wnum a b < m)) :
    Calls Try.prog 38 #[.agg #[.int .u64 a, .int .u64 b], .int .u64 m] w fun e w' => e = .returned (.int .u64 m) ∧ Below w.heap.size w w' := by
  have HL : Hid (∀ w : World, Calls Try.prog 46 #[.agg #[.int .u64 a, .int .u64 b], .agg #[.int .u64 0, .int .u64 m]] w fun e w' => e = .returned (.bool false) ∧ Below w.heap.size w w') := fun w => by
    have := rless_any a b 0 m (wnum a b) m w ha hb (by decide) hm rfl (wnum_zero m).symm
    rw [decide_eq_false h.out] at this
    exact this
  have K := Lib.hid (Boxed.start w a b)
  have c0 := K.out.1
  have c1 := K.out.2.1
  simp at c0 c1
  go_enter Try.func38, Try.ntmps38
  go_wp2_with fail
  go_region_with (first
    | ((with_reducible refine (rof_any _ _).mono ?_); rintro e w' ⟨rfl, hb'⟩; have K := Lib.hid (K.out.drew.below hb'); have c0 := K.out.1; have c1 := K.out.2.1)
    | ((with_reducible refine (HL.out _).mono ?_); rintro e w' ⟨rfl, hb'⟩; have K := Lib.hid (K.out.below hb'); have c0 := K.out.1; have c1 := K.out.2.1)
    | fail)
  all_goals
    go_wp2
    go_ret
    exact ⟨rfl, K.out.2.2⟩

/-- How long a text is. -/
def textLen : Value → Nat
  | .string b => b.size
  | _ => 0
theorem str_size (l : List Nat) : (str l).size = l.length := by simp [str, ByteArray.size]
theorem str_cons (x : Nat) (l : List Nat) : str [x] ++ str l = str (x :: l) := by
  apply ByteArray.ext
  simp [str, ByteArray.data_append]
theorem str_isEmpty (l : List Nat) : (str l).toList.isEmpty = l.isEmpty := by
  rw [ByteArray.toList_eq]
  simp [str]
/-- The box behind w's blocks holds what is left of the number. -/
def Left (w : World) (N k : Nat) (W : World) : Prop :=
  W.heap[w.heap.size]? = some (.cells #[.int .u64 (whi (N / 10 ^ k) : Nat), .int .u64 (wlo (N / 10 ^ k) : Nat)] 54 (0, 0)) ∧ Below w.heap.size w W
theorem Left.below {w W W' : World} {N k : Nat} (h : Left w N k W) (hb : Below W.heap.size W W') : Left w N k W' := ⟨kept h.1 hb, below_both h.2 hb⟩
theorem Left.box {w W : World} {N k : Nat} (h : Left w N k W) : W.cell? ⟨w.heap.size, 0, none⟩ = some (.int .u64 (whi (N / 10 ^ k) : Nat)) ∧ W.cell? ⟨w.heap.size, 1, none⟩ = some (.int .u64 (wlo (N / 10 ^ k) : Nat)) ∧
    W.frozen? ⟨w.heap.size, 0, none⟩ = false ∧ W.frozen? ⟨w.heap.size, 1, none⟩ = false :=
  ⟨cell_of_row W _ 0 _ _ _ h.1, cell_of_row W _ 1 _ _ _ h.1, frozen_of_row W _ 0 _ _ h.1, frozen_of_row W _ 1 _ _ h.1⟩
theorem Left.put {w W : World} {N k j : Nat} (h : Left w N k W) : Left w N j ((W.setCell ⟨w.heap.size, 0, none⟩ (.int .u64 (whi (N / 10 ^ j) : Nat))).setCell ⟨w.heap.size, 1, none⟩ (.int .u64 (wlo (N / 10 ^ j) : Nat))) := by
  have h1 := heap_setCell_same W w.heap.size 0 _ _ (.int .u64 (whi (N / 10 ^ j) : Nat)) h.1
  have h2 := heap_setCell_same _ w.heap.size 1 _ _ (.int .u64 (wlo (N / 10 ^ j) : Nat)) h1
  exact ⟨h2, (h.2.setCell (by simp) _).setCell (by simp) _⟩

end Go.Proofs.Ytdeehkhdmohalaa
