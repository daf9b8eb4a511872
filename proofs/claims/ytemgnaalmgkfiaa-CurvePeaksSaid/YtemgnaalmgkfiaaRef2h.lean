/-
  The contract of the document's Div.
-/
import Derived.Test.YtemgnaalmgkfiaaRef2c
import Derived.Test.YtemgnaalmgkfiaaRef2f
import Derived.Test.YtemgnaalmgkfiaaRef2g
import Derived.Test.YtemgnaalmgkfiaaWPlain5
namespace Go.Proofs.Ytemgnaalmgkfiaa
open Go.RowKit
set_option linter.unusedVariables false
attribute [local go_sem ↓] Go.wp_at_zero Go.wp_at_succ
attribute [local go_sem] World.cell?_alloc_some fcells_length run_storeCells_row Place.new Place.new2 Place.newOld Place.stored

/-- What stands while Div goes: the number's bits, the quotient's bits so far, the rest so far. -/
structure RInv (w : World) (g N Q k r : Nat) (W : World) : Prop where
  res : W.heap[w.heap.size + 1]? = some (.cells #[.int .u64 0, .int .u64 0] 42 (0, 0))
  num : Bl W g (bit N)
  quo : Bl W (g + 1) (quotRow Q k)
  rest : W.heap[g + 1 + 1]? = some (.cells #[.int .u64 (whi r : Nat), .int .u64 (wlo r : Nat)] 42 (0, 0))
  below : Below w.heap.size w W
  g1 : w.heap.size + 1 < g
theorem RInv.drew {w W : World} {g N Q k r : Nat} (h : RInv w g N Q k r W) : RInv w g N Q k r W.drew := ⟨h.res, h.num.drew, h.quo.drew, h.rest, h.below.drew, h.g1⟩
theorem RInv.next {w W W' : World} {g N Q k r : Nat} (h : RInv w g N Q k r W) (hb : Below W.heap.size W W') : RInv w g N Q k r W' :=
  ⟨kept h.res hb, h.num.below hb, h.quo.below hb, kept h.rest hb, below_both h.below hb, h.g1⟩
theorem RInv.put {w W : World} {g N Q k r : Nat} (h : RInv w g N Q k r W) (n : Nat) : RInv w g N Q k n ((W.setCell ⟨g + 1 + 1, 0, none⟩ (.int .u64 (whi n : Nat))).setCell ⟨g + 1 + 1, 1, none⟩ (.int .u64 (wlo n : Nat))) := by
  have a1 := h.g1
  have h1 := heap_setCell_same W (g + 1 + 1) 0 _ _ (.int .u64 (whi n : Nat)) h.rest
  have h2 := heap_setCell_same _ (g + 1 + 1) 1 _ _ (.int .u64 (wlo n : Nat)) h1
  exact ⟨(heap_setCell_other _ _ _ _ (by simp; omega)).trans ((heap_setCell_other _ _ _ _ (by simp; omega)).trans h.res), (h.num.other _ _ (by simp; omega)).other _ _ (by simp; omega), (h.quo.other _ _ (by simp)).other _ _ (by simp), h2,
    (h.below.setCell (by simp; omega) _).setCell (by simp; omega) _, a1⟩
theorem RInv.bit {w W : World} {g N Q p r : Nat} (h : RInv w g N Q (p + 1) r W) (hp : p < 128) (hq : Proofs.Ytemgnaalmgkfiaa.bit Q p = 1) : RInv w g N Q p r (W.setCell ⟨g + 1, p, none⟩ (.int .i64 1)) := by
  have a1 := h.g1
  refine ⟨(heap_setCell_other _ _ _ _ (by simp; omega)).trans h.res, h.num.other _ _ (by simp), ?_, (heap_setCell_other _ _ _ _ (by simp)).trans h.rest, h.below.setCell (by simp; omega) _, a1⟩
  refine (h.quo.set p 1 hp).congr fun j hj => ?_
  unfold upd quotRow
  by_cases e : j = p
  · subst e; rw [if_pos rfl, if_pos (Nat.le_refl _), hq]
  · rw [if_neg e]
    by_cases e1 : p + 1 ≤ j
    · rw [if_pos e1, if_pos (by omega)]
    · rw [if_neg e1, if_neg (by omega)]
theorem RInv.same {w W : World} {g N Q p r : Nat} (h : RInv w g N Q (p + 1) r W) (hq : Proofs.Ytemgnaalmgkfiaa.bit Q p = 0) : RInv w g N Q p r W := ⟨h.res, h.num, h.quo.congr (quotRow_same hq), h.rest, h.below, h.g1⟩

theorem rof_one (w : World) : Calls Try.prog 32 #[.int .u64 1] w fun e w' => e = .returned (.agg #[.int .u64 0, .int .u64 1]) ∧ Below w.heap.size w w' := rof_any 1 w
theorem radd_one (A S : Nat) (w : World) (hA : A < w128) (hS : Hid (A + 1 = S)) :
    Calls Try.prog 31 #[.agg #[.int .u64 (whi A : Nat), .int .u64 (wlo A : Nat)], .agg #[.int .u64 0, .int .u64 1]] w fun e w' =>
      e = .returned (.tuple #[.agg #[.int .u64 (whi S : Nat), .int .u64 (wlo S : Nat)], .bool (decide (w128 ≤ S))]) ∧ Below w.heap.size w w' := by
  have := radd_any (whi A) (wlo A) 0 1 A 1 w (whi_le A) (wlo_le A) (by decide) (by decide) (words_back hA) rfl
  rw [hS.out] at this
  exact this
theorem rless_word (A n : Nat) (t : Bool) (w : World) (hA : A < w128) (hn : n ≤ 18446744073709551615) (ht : Hid (decide (A < n) = t)) :
    Calls Try.prog 25 #[.agg #[.int .u64 (whi A : Nat), .int .u64 (wlo A : Nat)], .agg #[.int .u64 0, .int .u64 n]] w fun e w' => e = .returned (.bool t) ∧ Below w.heap.size w w' := by
  have := rless_any (whi A) (wlo A) 0 n A n w (whi_le A) (wlo_le A) (by decide) hn (words_back hA) (wnum_zero n).symm
  rw [ht.out] at this
  exact this
theorem rsub_word (A n S : Nat) (w : World) (hA : A < w128) (hn : n ≤ 18446744073709551615) (hle : n ≤ A) (hS : Hid (S = A - n)) :
    Calls Try.prog 41 #[.agg #[.int .u64 (whi A : Nat), .int .u64 (wlo A : Nat)], .agg #[.int .u64 0, .int .u64 n]] w fun e w' =>
      e = .returned (.tuple #[.agg #[.int .u64 (whi S : Nat), .int .u64 (wlo S : Nat)], .bool (decide (A < n))]) ∧ Below w.heap.size w w' := by
  have := rsub_any (whi A) (wlo A) 0 n A n w (whi_le A) (wlo_le A) (by decide) hn (words_back hA) (wnum_zero n).symm
  have e1 : whi (A + w128 - n) = whi S := by rw [hS.out, ← (words_mod (A + w128 - n)).1]; congr 1; unfold w128 at *; omega
  have e2 : wlo (A + w128 - n) = wlo S := by rw [hS.out, ← (words_mod (A + w128 - n)).2]; congr 1; unfold w128 at *; omega
  rw [e1, e2] at this
  exact this

theorem rdiv_zero (a b : Nat) (w : World) : Calls Try.prog 30 #[.agg #[.int .u64 a, .int .u64 b], .int .u64 0] w fun e w' => e = .returned (.tuple #[.agg #[.int .u64 0, .int .u64 0], .int .u64 0]) ∧ Below w.heap.size w w' := by
  go_enter Try.func30, Try.ntmps30
  go_wp2_with fail
  go_returns
  exact ⟨rfl, below_two _ _ _⟩
end Go.Proofs.Ytemgnaalmgkfiaa
