/-
  The contract of wide's Text.
-/
import Derived.Test.YtgpdghibkkgonaaWid4
import Derived.Test.YtgpdghibkkgonaaWPlain3
import Derived.Test.YtgpdghibkkgonaaOwn
namespace Go.Proofs.Ytgpdghibkkgonaa
open Go.RowKit
set_option linter.unusedVariables false
attribute [local go_sem ↓] Go.wp_at_zero Go.wp_at_succ

/-- What stands while Text goes: the digits' row in block g, what is left of the number in the box. -/
def TInv (w : World) (g N k : Nat) (W : World) : Prop :=
  W.heap[g]? = some (.cells (bcells (drow N k)).toArray 74 (0, 0)) ∧
  W.heap[w.heap.size]? = some (.cells #[.int .u64 (whi (N / 10 ^ k) : Nat), .int .u64 (wlo (N / 10 ^ k) : Nat)] 24 (0, 0)) ∧ w.heap.size < g ∧ Below w.heap.size w W
theorem TInv.below {w W W' : World} {g N k : Nat} (h : TInv w g N k W) (hb : Below W.heap.size W W') : TInv w g N k W' := ⟨kept h.1 hb, kept h.2.1 hb, h.2.2.1, below_both h.2.2.2 hb⟩
theorem TInv.drew {w W : World} {g N k : Nat} (h : TInv w g N k W) : TInv w g N k W.drew := ⟨h.1, h.2.1, h.2.2.1, h.2.2.2.drew⟩
theorem TInv.box {w W : World} {g N k : Nat} (h : TInv w g N k W) : W.cell? ⟨w.heap.size, 0, none⟩ = some (.int .u64 (whi (N / 10 ^ k) : Nat)) ∧ W.cell? ⟨w.heap.size, 1, none⟩ = some (.int .u64 (wlo (N / 10 ^ k) : Nat)) ∧
    W.frozen? ⟨w.heap.size, 0, none⟩ = false ∧ W.frozen? ⟨w.heap.size, 1, none⟩ = false :=
  ⟨cell_of_row W _ 0 _ _ _ h.2.1, cell_of_row W _ 1 _ _ _ h.2.1, frozen_of_row W _ 0 _ _ h.2.1, frozen_of_row W _ 1 _ _ h.2.1⟩
theorem TInv.at {w W : World} {g N k : Nat} (h : TInv w g N k W) (hk : k ≤ 39) (i : Nat) (hi : i < 39) : W.cell? ⟨g, i, none⟩ = some (.int .u8 ((drow N k).getD i 0 : Nat)) ∧ W.frozen? ⟨g, i, none⟩ = false := by
  refine ⟨?_, frozen_of_row W _ _ _ _ h.1⟩
  rw [cell_of_row W g i _ _ _ h.1]
  simp [bcells, drow_length N k hk, hi]
theorem TInv.store {w W : World} {g N k p : Nat} (h : TInv w g N k W) (hp : p + 1 + k = 39) :
    TInv w g N (k + 1) (((W.setCell ⟨w.heap.size, 0, none⟩ (.int .u64 (whi (N / 10 ^ (k + 1)) : Nat))).setCell ⟨w.heap.size, 1, none⟩ (.int .u64 (wlo (N / 10 ^ (k + 1)) : Nat))).setCell ⟨g, p, none⟩ (.int .u8 ((48 + N / 10 ^ k % 10 : Nat) : Int))) := by
  have hlt := h.2.2.1
  have h1 := heap_setCell_same W w.heap.size 0 _ _ (.int .u64 (whi (N / 10 ^ (k + 1)) : Nat)) h.2.1
  have h2 := heap_setCell_same _ w.heap.size 1 _ _ (.int .u64 (wlo (N / 10 ^ (k + 1)) : Nat)) h1
  have h3 : ((W.setCell ⟨w.heap.size, 0, none⟩ (.int .u64 (whi (N / 10 ^ (k + 1)) : Nat))).setCell ⟨w.heap.size, 1, none⟩ (.int .u64 (wlo (N / 10 ^ (k + 1)) : Nat))).heap[g]? = some (.cells (bcells (drow N k)).toArray 74 (0, 0)) :=
    (heap_setCell_other _ _ _ _ (by simp; omega)).trans ((heap_setCell_other _ _ _ _ (by simp; omega)).trans h.1)
  have h4 := heap_setCell_same _ g p _ _ (.int .u8 ((48 + N / 10 ^ k % 10 : Nat) : Int)) h3
  refine ⟨?_, (heap_setCell_other _ _ _ _ (by simp; omega)).trans h2, hlt, ((h.2.2.2.setCell (by simp) _).setCell (by simp) _).setCell (by simp; omega) _⟩
  rw [h4, ← drow_set N k p hp]
  simp [bcells, List.map_set]
theorem TInv.row {w W : World} {g N k p : Nat} (h : TInv w g N k W) (hp : p + k = 39) : Row W (some ⟨g, p, none⟩) (39 - p) (dtail N k) := by
  have e : 39 - p = k := by omega
  rw [e]
  refine Row.mk (dtail_length N k) (dtail_byte N k) fun i hi => ?_
  rw [(h.at (by omega) (p + i) (by omega)).1, drow_get N k p i hp]

theorem of_zero (w : World) : Calls Try.prog 24 #[.int .u64 0] w fun e w' => e = .returned (.agg #[.int .u64 0, .int .u64 0]) ∧ Below w.heap.size w w' := by
  have := of_any 0 w
  simpa using this
theorem div_ten (N : Nat) (x y : Nat) (w : World) (hN : N < w128) (hx : Hid (x = whi (N / 10))) (hy : Hid (y = wlo (N / 10))) :
    Calls Try.prog 23 #[.agg #[.int .u64 (whi N : Nat), .int .u64 (wlo N : Nat)], .int .u64 10] w fun e w' =>
      e = .returned (.tuple #[.agg #[.int .u64 x, .int .u64 y], .int .u64 (N % 10 : Nat)]) ∧ Below w.heap.size w w' := by
  rw [hx.out, hy.out]
  exact div_any (whi N) (wlo N) 10 N w (by decide) (words_back hN) (whi_le N) (wlo_le N) (by decide)

set_option maxRecDepth 10000 in
set_option maxHeartbeats 1600000 in
theorem text_any (a b N K : Nat) (w : World) (hN : Hid (N = wnum a b)) (ha : a ≤ 18446744073709551615) (hb : b ≤ 18446744073709551615) (hK : Hid (HasDigits N K)) (hK39 : K ≤ 39) :
    Calls Try.prog 16 #[.agg #[.int .u64 a, .int .u64 b]] w fun e w' => e = .returned (.string (str (dtail N K))) ∧ Below w.heap.size w w' := by
  have hN2 : Hid (N < w128) := by
    have := wnum_lt ha hb
    rw [← hN.out] at this
    exact this
  go_enter Try.func16, Try.ntmps16
  go_wp2_with fail
  go_loopw [4] (fun i wr => ∃ k p : Nat, k < K ∧ Hid (p + k = 39) ∧ i = .int .i64 p ∧ TInv w (w.heap.size + 1) N k wr) (fun i _ => (intOf i).toNat)
  case atStart =>
    refine ⟨0, 39, by have := hK.out.one; omega, rfl, rfl, ?_, ?_, by omega, below_two _ _ _⟩
    · exact heap_alloc2_new _ _ _
    · have e : N / 10 ^ 0 = wnum a b := by rw [Nat.pow_zero, Nat.div_one]; exact hN.out
      rw [e, whi_num ha hb, wlo_num hb]
      exact heap_alloc2_old _ _ _
  case round =>
    obtain ⟨k, p, hk, hp, rfl, HT⟩ := hrel
    have HT := Lib.hid HT
    obtain ⟨c0, c1, c2, c3⟩ := HT.out.box
    have hM : N / 10 ^ k < w128 := Nat.lt_of_le_of_lt (Nat.div_le_self _ _) hN2.out
    obtain ⟨x, hx⟩ : ∃ x, x = whi (N / 10 ^ (k + 1)) := ⟨_, rfl⟩
    obtain ⟨y, hy⟩ : ∃ y, y = wlo (N / 10 ^ (k + 1)) := ⟨_, rfl⟩
    obtain ⟨d, hd⟩ : ∃ d, d = N / 10 ^ k % 10 := ⟨_, rfl⟩
    have hd10 : d < 10 := by rw [hd]; exact Nat.mod_lt _ (by decide)
    obtain ⟨D, hD⟩ : ∃ D, D = 48 + d := ⟨_, rfl⟩
    obtain ⟨p1, hp1⟩ : ∃ p1, p = p1 + 1 := ⟨p - 1, by have := hp.out; omega⟩
    have hfin : (x = 0 ∧ y = 0 ∧ Hid (k + 1 = K)) ∨ (x ≠ 0 ∧ Hid (k + 1 < K)) ∨ (x = 0 ∧ y ≠ 0 ∧ Hid (k + 1 < K)) := by
      by_cases hz : k + 1 = K
      · refine .inl ⟨?_, ?_, hz⟩
        · rw [hx, hz, hK.out.zero]; rfl
        · rw [hy, hz, hK.out.zero]; rfl
      · have hlt : k + 1 < K := by omega
        have hne := hK.out.more (k + 1) (by omega) hlt
        rcases words_ne hne (Nat.lt_of_le_of_lt (Nat.div_le_self _ _) hN2.out) with h | ⟨h1, h2⟩
        · exact .inr (.inl ⟨by rw [hx]; exact h, hlt⟩)
        · exact .inr (.inr ⟨by rw [hx]; exact h1, by rw [hy]; exact h2, hlt⟩)
    have HD : Hid (∀ w, Calls Try.prog 23 #[.agg #[.int .u64 (whi (N / 10 ^ k) : Nat), .int .u64 (wlo (N / 10 ^ k) : Nat)], .int .u64 10] w fun e w' =>
      e = .returned (.tuple #[.agg #[.int .u64 x, .int .u64 y], .int .u64 d]) ∧ Below w.heap.size w w') := fun w => by
        rw [hd]
        exact div_ten (N / 10 ^ k) x y w hM (by rw [div_pow_succ]; exact hx) (by rw [div_pow_succ]; exact hy)
    have t1 : IntKind.i64.wrap ((p : Int) - 1) = (p1 : Int) := by
      have := hp.out
      have e : ((p : Int) - 1) = (p1 : Int) := by omega
      rw [e]; exact IntWalk.i64_in _ ⟨by omega, by omega⟩
    have t2 : (0 : Int) ≤ (p1 : Int) := by omega
    have t6 : (p1 : Int) ≤ 39 := by have := hp.out; omega
    have t3 : (p1 : Int) < 39 := by have := hp.out; omega
    have t4 : IntKind.u8.wrap (d : Int) = (d : Int) := IntWalk.u8_in _ ⟨by omega, by omega⟩
    have t5 : IntKind.u8.wrap (48 + (d : Int)) = (D : Int) := by
      have e : (48 + (d : Int)) = (D : Int) := by omega
      rw [e]; exact IntWalk.u8_in _ ⟨by omega, by omega⟩
    have hp2 : Hid (p1 + (k + 1) = 39) := by have := hp.out; exact (by omega : p1 + (k + 1) = 39)
    have HX := Lib.hid hx
    have HY := Lib.hid hy
    have HDD : Hid (D = 48 + N / 10 ^ k % 10) := by rw [← hd]; exact hD
    have hlt : Hid (p1 < p) := (by omega : p1 < p)
    clear hx hy hd hD hp1 hM hd10 hp
    go_wp2_with fail
    refine (HD.out _).mono ?_
    rintro e w1 ⟨rfl, hb1⟩
    have HT := Lib.hid (HT.out.below hb1)
    obtain ⟨c0, c1, c2, c3⟩ := HT.out.box
    obtain ⟨c4, c5⟩ := HT.out.at (by have := hp2.out; omega) p1 (by omega)
    have HT2 : Hid (TInv w (w.heap.size + 1) N (k + 1) (((w1.setCell ⟨w.heap.size, 0, none⟩ (.int .u64 x)).setCell ⟨w.heap.size, 1, none⟩ (.int .u64 y)).setCell ⟨w.heap.size + 1, p1, none⟩ (.int .u8 D))) := by
      rw [HX.out, HY.out, HDD.out]
      exact HT.out.store (by have := hp2.out; omega)
    clear hb1
    go_wp2_with fail
    generalize (((w1.setCell ⟨w.heap.size, 0, none⟩ (.int .u64 (x : Nat))).setCell ⟨w.heap.size, 1, none⟩ (.int .u64 (y : Nat))).setCell ⟨w.heap.size + 1, p1, none⟩ (.int .u8 (D : Nat))) = w3 at *
    clear c0 c1 c2 c3 c4 c5 HT HD t1 t4 t5
    obtain ⟨c0, c1, c2, c3⟩ := HT2.out.box
    rw [← HX.out] at c0
    rw [← HY.out] at c1
    have hconv := conv_str (c := 39 - p1) (HT2.out.row hp2.out)
    rcases hfin with ⟨rfl, rfl, hk1⟩ | ⟨hxn, hk1⟩ | ⟨rfl, hyn, hk1⟩
    · simp at c0 c1
      go_region_with (first
        | ((with_reducible refine (of_zero _).mono ?_); rintro e w' ⟨rfl, hb'⟩; have HT2 := Lib.hid (HT2.out.drew.below hb'); obtain ⟨c0, c1, c2, c3⟩ := HT2.out.box; rw [← HX.out] at c0; rw [← HY.out] at c1; simp at c0 c1; have hconv := conv_str (c := 39 - p1) (HT2.out.row hp2.out))
        | fail)
      all_goals
        go_wp2
        go_ret
        exact ⟨by rw [← hk1.out]; rfl, HT2.out.2.2.2⟩
    · have hxi : ((x : Int) == 0) = false := by simp; omega
      go_region_with (first
        | ((with_reducible refine (of_zero _).mono ?_); rintro e w' ⟨rfl, hb'⟩; have HT2 := Lib.hid (HT2.out.drew.below hb'); obtain ⟨c0, c1, c2, c3⟩ := HT2.out.box; rw [← HX.out] at c0; rw [← HY.out] at c1; have hconv := conv_str (c := 39 - p1) (HT2.out.row hp2.out))
        | fail)
      all_goals
        go_wp2
        simp only [Act.put, List.setIfInBounds_toArray, List.set_cons_zero, List.set_cons_succ, List.getElem_toArray, List.getElem_cons_succ, List.getElem_cons_zero]
        go_roundw
        case rel => exact ⟨k + 1, p1, hk1.out, hp2.out, rfl, HT2.out⟩
        case measure => simp [intOf]; have := hlt.out; omega
    · have hyi : ((y : Int) == 0) = false := by simp; omega
      simp at c0
      go_region_with (first
        | ((with_reducible refine (of_zero _).mono ?_); rintro e w' ⟨rfl, hb'⟩; have HT2 := Lib.hid (HT2.out.drew.below hb'); obtain ⟨c0, c1, c2, c3⟩ := HT2.out.box; rw [← HX.out] at c0; rw [← HY.out] at c1; simp at c0; have hconv := conv_str (c := 39 - p1) (HT2.out.row hp2.out))
        | fail)
      all_goals
        go_wp2
        simp only [Act.put, List.setIfInBounds_toArray, List.set_cons_zero, List.set_cons_succ, List.getElem_toArray, List.getElem_cons_succ, List.getElem_cons_zero]
        go_roundw
        case rel => exact ⟨k + 1, p1, hk1.out, hp2.out, rfl, HT2.out⟩
        case measure => simp [intOf]; have := hlt.out; omega
end Go.Proofs.Ytgpdghibkkgonaa
