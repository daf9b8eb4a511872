/-
  Contracts of the document's Bits and whole.
-/
import Derived.Test.YtemgnaalmgkfiaaWRow
import Derived.Test.YtemgnaalmgkfiaaWPlain4
import Derived.Test.YtemgnaalmgkfiaaWid4
namespace Go.Proofs.Ytemgnaalmgkfiaa
open Go.RowKit
set_option linter.unusedVariables false
attribute [local go_sem ↓] Go.wp_at_zero Go.wp_at_succ

/-- The row of Bits after i rounds. -/
def bitsRow (a b i : Nat) : Nat → Nat := fun j => if j < i then b / 2 ^ j % 2 else if 64 ≤ j ∧ j < 64 + i then a / 2 ^ (j - 64) % 2 else 0

/-- What stands while Bits goes: the row in block g, what is left of the two words in the box. -/
structure BInv (w : World) (a b i : Nat) (W : World) : Prop where
  row : Bl W (w.heap.size + 1 + 1) (bitsRow a b i)
  out : Bl W (w.heap.size + 1) (fun _ => 0)
  box : W.heap[w.heap.size]? = some (.cells #[.int .u64 (a / 2 ^ i : Nat), .int .u64 (b / 2 ^ i : Nat)] 42 (0, 0))
  below : Below w.heap.size w W

theorem bitsRow_step (a b i : Nat) (hi : i < 64) : ∀ j, j < 128 → upd (upd (bitsRow a b i) i (b / 2 ^ i % 2)) (64 + i) (a / 2 ^ i % 2) j = bitsRow a b (i + 1) j := by
  intro j hj
  unfold upd bitsRow
  by_cases h1 : j = 64 + i
  · subst h1
    rw [if_pos rfl, if_neg (by omega), if_pos (by omega)]
    congr 3
    omega
  · rw [if_neg h1]
    by_cases h2 : j = i
    · subst h2
      rw [if_pos rfl, if_pos (by omega)]
    · rw [if_neg h2]
      have e1 : (j < i + 1) ↔ (j < i) := by omega
      have e2 : (64 ≤ j ∧ j < 64 + (i + 1)) ↔ (64 ≤ j ∧ j < 64 + i) := by omega
      simp only [e1, e2]
theorem bitsRow_end (a b : Nat) (hb : b ≤ 18446744073709551615) : ∀ j, j < 128 → bitsRow a b 64 j = bit (wnum a b) j := by
  intro j hj
  unfold bitsRow
  by_cases h : j < 64
  · rw [if_pos h, bit_word_lo hb h]
  · rw [if_neg h, if_pos (by omega)]
    obtain ⟨i, rfl⟩ : ∃ i, j = 64 + i := ⟨j - 64, by omega⟩
    rw [bit_word_hi hb, Nat.add_sub_cancel_left]
theorem BInv.step {w W : World} {a b i : Nat} (h : BInv w a b i W) (hi : i < 64) :
    BInv w a b (i + 1) ((((W.setCell ⟨w.heap.size + 1 + 1, i, none⟩ (.int .i64 (b / 2 ^ i % 2 : Nat))).setCell ⟨w.heap.size + 1 + 1, 64 + i, none⟩ (.int .i64 (a / 2 ^ i % 2 : Nat))).setCell ⟨w.heap.size, 1, none⟩ (.int .u64 (b / 2 ^ (i + 1) : Nat))).setCell ⟨w.heap.size, 0, none⟩ (.int .u64 (a / 2 ^ (i + 1) : Nat))) where
  row := ((((h.row.set i _ (by omega)).set (64 + i) _ (by omega)).other _ _ (by simp; omega)).other _ _ (by simp; omega)).congr (bitsRow_step a b i hi)
  out := (((h.out.other _ _ (by simp)).other _ _ (by simp)).other _ _ (by simp)).other _ _ (by simp)
  box := by
    have h0 : ((W.setCell ⟨w.heap.size + 1 + 1, i, none⟩ (.int .i64 (b / 2 ^ i % 2 : Nat))).setCell ⟨w.heap.size + 1 + 1, 64 + i, none⟩ (.int .i64 (a / 2 ^ i % 2 : Nat))).heap[w.heap.size]? = _ :=
      (heap_setCell_other _ _ _ _ (by simp; omega)).trans ((heap_setCell_other _ _ _ _ (by simp; omega)).trans h.box)
    have h1 := heap_setCell_same _ w.heap.size 1 _ _ (.int .u64 (b / 2 ^ (i + 1) : Nat)) h0
    exact heap_setCell_same _ w.heap.size 0 _ _ (.int .u64 (a / 2 ^ (i + 1) : Nat)) h1
  below := (((h.below.setCell (by simp; omega) _).setCell (by simp; omega) _).setCell (by simp) _).setCell (by simp) _

set_option maxHeartbeats 1600000 in
theorem bits2_any (a b : Nat) (w : World) (ha : a ≤ 18446744073709551615) (hb : b ≤ 18446744073709551615) :
    Calls Try.prog 40 #[.agg #[.int .u64 a, .int .u64 b]] w fun e w' => e = .returned (.agg (fcells (bit (wnum a b))).toArray) ∧ Below w.heap.size w w' := by
  go_enter Try.func40, Try.ntmps40
  go_wp2_with fail
  go_loopw [4] (fun i wr => ∃ k : Nat, k ≤ 64 ∧ i = .int .i64 k ∧ Hid (BInv w a b k wr)) (fun i _ => (64 - intOf i).toNat)
  case atStart =>
    refine ⟨0, by omega, rfl, ?_⟩
    have e0 : ∀ i, i < 128 → (fun _ => 0 : Nat → Nat) i = bitsRow a b 0 i := fun i hi => by
      unfold bitsRow
      rw [if_neg (by omega), if_neg (by omega)]
    have z2 := (Bl.zero ((w.alloc (.cells #[.int .u64 a, .int .u64 b] 42)).alloc (.cells Try.zeroCells70 70))).congr e0
    have z1 := (Bl.zero (w.alloc (.cells #[.int .u64 a, .int .u64 b] 42))).alloc (.cells Try.zeroCells70 70)
    refine ⟨by simpa using z2, by simpa using z1, ?_, below_three _ _ _ _⟩
    rw [Nat.pow_zero, Nat.div_one, Nat.div_one, Below.heap_alloc _ _ _ (by simp; omega)]
    exact heap_alloc2_old _ _ _
  case round =>
    obtain ⟨k, hk, rfl, HB⟩ := hrel
    by_cases hlt : k < 64
    · have c0 := cell_of_row wr w.heap.size 0 _ _ _ HB.out.box
      have c1 := cell_of_row wr w.heap.size 1 _ _ _ HB.out.box
      have f0 := frozen_of_row wr w.heap.size 0 _ _ HB.out.box
      have f1 := frozen_of_row wr w.heap.size 1 _ _ HB.out.box
      have d0 := HB.out.row.cell k (by omega)
      have d1 := HB.out.row.cell (64 + k) (by omega)
      have g0 := HB.out.row.free k
      have g1 := HB.out.row.free (64 + k)
      obtain ⟨x, hx⟩ : ∃ x, x = b / 2 ^ k := ⟨_, rfl⟩
      obtain ⟨y, hy⟩ : ∃ y, y = a / 2 ^ k := ⟨_, rfl⟩
      have hxl : x ≤ 18446744073709551615 := by rw [hx]; exact Nat.le_trans (Nat.div_le_self _ _) hb
      have hyl : y ≤ 18446744073709551615 := by rw [hy]; exact Nat.le_trans (Nat.div_le_self _ _) ha
      have hst := HB.out.step hlt
      rw [div_succ, div_succ, ← hx, ← hy] at hst
      rw [← hx, ← hy] at c0 c1
      simp at c0 c1
      obtain ⟨x2, hx2⟩ : ∃ x2, x2 = x % 2 := ⟨_, rfl⟩
      obtain ⟨y2, hy2⟩ : ∃ y2, y2 = y % 2 := ⟨_, rfl⟩
      obtain ⟨x3, hx3⟩ : ∃ x3, x3 = x / 2 := ⟨_, rfl⟩
      obtain ⟨y3, hy3⟩ : ∃ y3, y3 = y / 2 := ⟨_, rfl⟩
      rw [← hx2, ← hy2, ← hx3, ← hy3] at hst
      have HS := Lib.hid hst
      clear hst hx hy
      have t1 : ((x : Int).tmod 2) = (x2 : Int) := by rw [hx2]; exact (Int.natCast_emod x 2).symm ▸ (Int.tmod_eq_emod_of_nonneg (by omega))
      have t2 : ((y : Int).tmod 2) = (y2 : Int) := by rw [hy2]; exact (Int.natCast_emod y 2).symm ▸ (Int.tmod_eq_emod_of_nonneg (by omega))
      have t3 : ((x : Int).tdiv 2) = (x3 : Int) := by rw [hx3]; exact (Int.natCast_ediv x 2).symm ▸ (Int.tdiv_eq_ediv_of_nonneg (by omega))
      have t4 : ((y : Int).tdiv 2) = (y3 : Int) := by rw [hy3]; exact (Int.natCast_ediv y 2).symm ▸ (Int.tdiv_eq_ediv_of_nonneg (by omega))
      have t5 : wrap64 (x2 : Int) = (x2 : Int) := by unfold wrap64; omega
      have t6 : wrap64 (y2 : Int) = (y2 : Int) := by unfold wrap64; omega
      have t7 : IntKind.u64.wrap (x3 : Int) = (x3 : Int) := wrap_nat x3 (by rw [hx3]; exact Nat.le_trans (Nat.div_le_self _ _) hxl)
      have t8 : IntKind.u64.wrap (y3 : Int) = (y3 : Int) := wrap_nat y3 (by rw [hy3]; exact Nat.le_trans (Nat.div_le_self _ _) hyl)
      clear hx2 hy2 hx3 hy3
      go_wp2_with fail
      go_roundw
      case rel => exact ⟨k + 1, by omega, by go_num, HS.out⟩
      case measure => simp [intOf]; omega
    · obtain rfl : k = 64 := by omega
      clear hk hlt
      have hrow := HB.out.row.congr (bitsRow_end a b hb)
      have hout := HB.out.out.store (bit (wnum a b))
      have hbl := Lib.hid (below_setCells (w.heap.size + 1) (by omega) (fcells (bit (wnum a b))) 0 wr HB.out.below)
      have HZ := Lib.hid HB.out.out
      have HR := Lib.hid hrow
      have HO := Lib.hid hout
      clear hrow hout HB
      go_upto_region 8 with fail
      refine wp_region_lit ?_
      refine wpList_load_row rfl (.tmp 3) rfl _ rfl HR.out ?_
      refine wpList_store_row rfl (.tmp 2) (.tmp 30) rfl _ rfl HZ.out _ rfl ?_
      refine wpList_nil ?_
      generalize wr.setCells (w.heap.size + 1) 0 (fcells (bit (wnum a b))) = w9 at *
      simp only [Act.put, List.setIfInBounds_toArray, List.set_cons_zero, List.set_cons_succ]
      refine (by assumption : ∀ (a : Act) (w : World), Code.wp Try.prog Code.ret _ a w → _) _ _ ?_
      refine wp_ret ?_
      show bodyPost Try.prog Try.f40 _ Exit.ret _ _
      have hlv := HO.out.loadVar
      exact bodyPost_ret (v := .agg (fcells (bit (wnum a b))).toArray) (results_cell_is Try.results40 rfl hlv) rfl ⟨rfl, hbl.out⟩
end Go.Proofs.Ytemgnaalmgkfiaa
