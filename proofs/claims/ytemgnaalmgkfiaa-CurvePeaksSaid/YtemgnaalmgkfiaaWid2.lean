/-
  Contracts of wide's halves, raise, Mul, Cap.
-/
import Derived.Test.YtemgnaalmgkfiaaWid1
import Derived.Deep.RegionHeld3
import Derived.Deep.DrawnRows
namespace Go.Proofs.Ytemgnaalmgkfiaa
open Go.RowKit
set_option linter.unusedVariables false
attribute [local go_sem ↓] Go.wp_at_zero Go.wp_at_succ

theorem halves_any (n : Nat) (w : World) (hn : n ≤ 18446744073709551615) :
    Calls Try.prog 36 #[.int .u64 n] w fun e w' => e = .returned (.agg #[.int .u64 (n % 4294967296 : Nat), .int .u64 (n / 4294967296 : Nat)]) ∧ Below w.heap.size w w' := by
  have h1 : bits .and .u64 (n : Int) 4294967295 = ((n % 4294967296 : Nat) : Int) := by
    have := u64_and_nat n 4294967295 (by omega) (by omega)
    have h2 : n &&& 4294967295 = n % 4294967296 := Nat.and_two_pow_sub_one_eq_mod n 32
    rw [h2] at this
    simpa using this
  obtain ⟨a, ha⟩ : ∃ a, a = n % 4294967296 := ⟨_, rfl⟩
  rw [← ha] at h1 ⊢
  clear ha
  go_enter Try.func36, Try.ntmps36
  go_wp2
  go_returns
  exact ⟨by simp, (Below.refl _ _).alloc (Nat.le_refl _) _⟩

theorem shr_shl (n p : Nat) (hn : n ≤ 18446744073709551615) (hp : p ≤ 64) : n / 2 ^ (64 - p) = whi (n * 2 ^ p) ∧ n * 2 ^ p % 18446744073709551616 = wlo (n * 2 ^ p) := by
  refine ⟨?_, rfl⟩
  unfold whi
  have e : (18446744073709551616 : Nat) = 2 ^ (64 - p) * 2 ^ p := by rw [← Nat.pow_add, show 64 - p + p = 64 from by omega]
  have h1 : n * 2 ^ p / 18446744073709551616 = n / 2 ^ (64 - p) := by rw [e, Nat.mul_div_mul_right _ _ (Nat.two_pow_pos p)]
  rw [h1, Nat.mod_eq_of_lt]
  have := Nat.div_le_self n (2 ^ (64 - p))
  omega

theorem raise_any (n p : Nat) (w : World) (hn : n ≤ 18446744073709551615) (hp : p ≤ 64) :
    Calls Try.prog 37 #[.int .u64 n, .int .i64 p] w fun e w' => e = .returned (.agg #[.int .u64 (whi (n * 2 ^ p)), .int .u64 (wlo (n * 2 ^ p))]) ∧ Below w.heap.size w w' := by
  obtain ⟨h1, h2⟩ := shr_shl n p hn hp
  have h1 := Lib.hid h1
  have h2 := Lib.hid h2
  have a1 : IntKind.i64.wrap (64 - (p : Int)) = 64 - (p : Int) := IntWalk.i64_in _ ⟨by omega, by omega⟩
  have a2 : (0 : Int) ≤ 64 - (p : Int) := by omega
  have a3 : (64 - (p : Int)).toNat = 64 - p := by omega
  go_enter Try.func37, Try.ntmps37
  go_wp2_with fail
  go_region_held3 (fun _ => True) (first | trivial | go_keep) (fail)
  have e1 : ((n : Int) / 2 ^ (64 - p)) = ((whi (n * 2 ^ p) : Nat) : Int) := by rw [← h1.out]; simp
  have e2 : IntKind.u64.wrap ((n : Int) * 2 ^ p) = ((wlo (n * 2 ^ p) : Nat) : Int) := by
    rw [← h2.out, IntKind.wrap_u64]
    simp
  go_wp2
  go_returns
  exact ⟨by simp only [e1, e2], ((Below.refl _ _).alloc (Nat.le_refl _) _).drew⟩
theorem carry {w w' : World} {p : Addr} {v : Value} (h : w.cell? p = some v) (hb : Below w.heap.size w w') : w'.cell? p = some v := (hb.cell (cell_lt h)).trans h
theorem kept {w w' : World} {g : Nat} {o : Obj} (h : w.heap[g]? = some o) (hb : Below w.heap.size w w') : w'.heap[g]? = some o := by
  rcases Nat.lt_or_ge g w.heap.size with hlt | hge
  · exact (hb.block g hlt).trans h
  · rw [Array.getElem?_eq_none hge] at h; cases h

/-- The partial products, and their sum so far. -/
def part (a b : Nat) : Nat → Nat
  | 0 => (a % 4294967296) * (b % 4294967296)
  | 1 => (a % 4294967296) * (b / 4294967296)
  | 2 => (a / 4294967296) * (b % 4294967296)
  | _ => (a / 4294967296) * (b / 4294967296)
def lift : Nat → Nat
  | 0 => 0
  | 1 => 32
  | 2 => 32
  | _ => 64
def psum (a b : Nat) : Nat → Nat
  | 0 => 0
  | k + 1 => psum a b k + part a b k * 2 ^ lift k
theorem part_le (a b k : Nat) (ha : a ≤ 18446744073709551615) (hb : b ≤ 18446744073709551615) : part a b k ≤ 18446744065119617025 := by
  have h : ∀ x y : Nat, x ≤ 4294967295 → y ≤ 4294967295 → x * y ≤ 18446744065119617025 := fun x y hx hy => by
    have := Nat.mul_le_mul hx hy
    omega
  unfold part
  split <;> exact h _ _ (by omega) (by omega)
theorem psum_four (a b : Nat) : psum a b 4 = a * b := by
  simp only [psum, part, lift]
  have h1 : a = a / 4294967296 * 4294967296 + a % 4294967296 := by omega
  have h2 : b = b / 4294967296 * 4294967296 + b % 4294967296 := by omega
  generalize a / 4294967296 = x1 at *
  generalize a % 4294967296 = x0 at *
  generalize b / 4294967296 = y1 at *
  generalize b % 4294967296 = y0 at *
  subst h1 h2
  simp only [Nat.add_mul, Nat.mul_add]
  have e1 : x1 * 4294967296 * (y1 * 4294967296) = x1 * y1 * 2 ^ 64 := by
    rw [show (2 : Nat) ^ 64 = 4294967296 * 4294967296 from by decide, Nat.mul_mul_mul_comm]
  have e2 : x1 * 4294967296 * y0 = x1 * y0 * 2 ^ 32 := by rw [show (2 : Nat) ^ 32 = 4294967296 from by decide, Nat.mul_right_comm]
  have e3 : x0 * (y1 * 4294967296) = x0 * y1 * 2 ^ 32 := by rw [show (2 : Nat) ^ 32 = 4294967296 from by decide, Nat.mul_assoc]
  rw [e1, e2, e3]
  omega
theorem prod_lt {a b : Nat} (ha : a ≤ 18446744073709551615) (hb : b ≤ 18446744073709551615) : a * b < w128 := by
  have := Nat.mul_le_mul ha hb
  unfold w128
  omega
theorem psum_le (a b k : Nat) (hk : k ≤ 4) : psum a b k ≤ a * b := by
  rw [← psum_four]
  have h : ∀ j, psum a b j ≤ psum a b (j + 1) := fun j => by simp only [psum]; omega
  have : k = 0 ∨ k = 1 ∨ k = 2 ∨ k = 3 ∨ k = 4 := by omega
  have h0 : psum a b 0 ≤ psum a b 1 := h 0
  have h1 : psum a b 1 ≤ psum a b 2 := h 1
  have h2 : psum a b 2 ≤ psum a b 3 := h 2
  have h3 : psum a b 3 ≤ psum a b 4 := h 3
  rcases this with rfl | rfl | rfl | rfl | rfl <;> omega

theorem raise_part (a b k : Nat) (p : Int) (w : World) (ha : a ≤ 18446744073709551615) (hb : b ≤ 18446744073709551615) (hp : p = (lift k : Nat)) :
    Calls Try.prog 37 #[.int .u64 (part a b k : Nat), .int .i64 p] w fun e w' => e = .returned (.agg #[.int .u64 (whi (part a b k * 2 ^ lift k)), .int .u64 (wlo (part a b k * 2 ^ lift k))]) ∧ Below w.heap.size w w' := by
  have := part_le a b k ha hb
  have hl : lift k ≤ 64 := by unfold lift; split <;> omega
  rw [hp]
  exact raise_any _ _ w (by omega) hl

/-- What stands while Mul adds: the partial products lie in block g, their sum so far in block g + 1, the result's place is empty. -/
def MInv (w : World) (g a b k : Nat) (wr : World) : Prop :=
  wr.heap[g]? = some (.cells #[.int .u64 (part a b 0 : Nat), .int .u64 (part a b 1 : Nat), .int .u64 (part a b 2 : Nat), .int .u64 (part a b 3 : Nat)] 65 (0, 0)) ∧
  wr.heap[g + 1]? = some (.cells #[.int .u64 (whi (psum a b k) : Nat), .int .u64 (wlo (psum a b k) : Nat)] 42 (0, 0)) ∧
  wr.heap[w.heap.size]? = some (.cells #[.int .u64 0, .int .u64 0] 42 (0, 0)) ∧ w.heap.size < g ∧ Below w.heap.size w wr

theorem MInv.below {w W W' : World} {g a b k : Nat} (h : MInv w g a b k W) (hb : Below W.heap.size W W') : MInv w g a b k W' :=
  ⟨kept h.1 hb, kept h.2.1 hb, kept h.2.2.1 hb, h.2.2.2.1, below_both h.2.2.2.2 hb⟩
theorem MInv.drew {w W : World} {g a b k : Nat} (h : MInv w g a b k W) : MInv w g a b k W.drew := ⟨h.1, h.2.1, h.2.2.1, h.2.2.2.1, h.2.2.2.2.drew⟩
theorem MInv.cells {w W : World} {g a b k : Nat} (h : MInv w g a b k W) : W.cell? ⟨g + 1, 0, none⟩ = some (.int .u64 (whi (psum a b k) : Nat)) ∧ W.cell? ⟨g + 1, 1, none⟩ = some (.int .u64 (wlo (psum a b k) : Nat)) ∧
    W.frozen? ⟨g + 1, 0, none⟩ = false ∧ W.frozen? ⟨g + 1, 1, none⟩ = false :=
  ⟨cell_of_row W (g + 1) 0 _ _ _ h.2.1, cell_of_row W (g + 1) 1 _ _ _ h.2.1, frozen_of_row W (g + 1) 0 _ _ h.2.1, frozen_of_row W (g + 1) 1 _ _ h.2.1⟩
theorem MInv.store {w W : World} {g a b k : Nat} (h : MInv w g a b k W) :
    MInv w g a b (k + 1) ((W.setCell ⟨g + 1, 0, none⟩ (.int .u64 (whi (psum a b (k + 1)) : Nat))).setCell ⟨g + 1, 1, none⟩ (.int .u64 (wlo (psum a b (k + 1)) : Nat))) := by
  have h1 := heap_setCell_same W (g + 1) 0 _ _ (.int .u64 (whi (psum a b (k + 1)) : Nat)) h.2.1
  have h2 := heap_setCell_same _ (g + 1) 1 _ _ (.int .u64 (wlo (psum a b (k + 1)) : Nat)) h1
  have hlt := h.2.2.2.1
  refine ⟨(heap_setCell_other _ _ _ _ (by simp)).trans ((heap_setCell_other _ _ _ _ (by simp)).trans h.1), h2, (heap_setCell_other _ _ _ _ (by simp; omega)).trans ((heap_setCell_other _ _ _ _ (by simp; omega)).trans h.2.2.1), hlt,
    (h.2.2.2.2.setCell (by simp; omega) _).setCell (by simp; omega) _⟩
theorem mul_step {a b k : Nat} (ha : a ≤ 18446744073709551615) (hb : b ≤ 18446744073709551615) (hk : k < 4) :
    psum a b (k + 1) = wnum (whi (psum a b k)) (wlo (psum a b k)) + wnum (whi (part a b k * 2 ^ lift k)) (wlo (part a b k * 2 ^ lift k)) ∧ false = decide (w128 ≤ psum a b (k + 1)) := by
  have h1 := prod_lt ha hb
  have h2 := psum_le a b (k + 1) (by omega)
  have h3 : psum a b (k + 1) = psum a b k + part a b k * 2 ^ lift k := rfl
  refine ⟨?_, by symm; simp only [decide_eq_false_iff_not]; omega⟩
  rw [wnum_words, wnum_words, Nat.mod_eq_of_lt (by omega), Nat.mod_eq_of_lt (by omega)]
  exact h3

set_option maxHeartbeats 1600000 in
theorem mul_any (a b : Nat) (w : World) (ha : a ≤ 18446744073709551615) (hb : b ≤ 18446744073709551615) :
    Calls Try.prog 19 #[.int .u64 a, .int .u64 b] w fun e w' => e = .returned (.agg #[.int .u64 (whi (a * b)), .int .u64 (wlo (a * b))]) ∧ Below w.heap.size w w' := by
  obtain ⟨x0, hx0⟩ : ∃ x, x = a % 4294967296 := ⟨_, rfl⟩
  obtain ⟨x1, hx1⟩ : ∃ x, x = a / 4294967296 := ⟨_, rfl⟩
  obtain ⟨y0, hy0⟩ : ∃ x, x = b % 4294967296 := ⟨_, rfl⟩
  obtain ⟨y1, hy1⟩ : ∃ x, x = b / 4294967296 := ⟨_, rfl⟩
  have e0 : IntKind.u64.wrap ((x0 : Int) * (y0 : Int)) = ((part a b 0 : Nat) : Int) := by
    have := part_le a b 0 ha hb
    have e : ((x0 : Int) * (y0 : Int)) = ((part a b 0 : Nat) : Int) := by rw [hx0, hy0]; simp [part]
    rw [e]; exact IntWalk.u64_in _ ⟨by omega, by omega⟩
  have e1 : IntKind.u64.wrap ((x0 : Int) * (y1 : Int)) = ((part a b 1 : Nat) : Int) := by
    have := part_le a b 1 ha hb
    have e : ((x0 : Int) * (y1 : Int)) = ((part a b 1 : Nat) : Int) := by rw [hx0, hy1]; simp [part]
    rw [e]; exact IntWalk.u64_in _ ⟨by omega, by omega⟩
  have e2 : IntKind.u64.wrap ((x1 : Int) * (y0 : Int)) = ((part a b 2 : Nat) : Int) := by
    have := part_le a b 2 ha hb
    have e : ((x1 : Int) * (y0 : Int)) = ((part a b 2 : Nat) : Int) := by rw [hx1, hy0]; simp [part]
    rw [e]; exact IntWalk.u64_in _ ⟨by omega, by omega⟩
  have e3 : IntKind.u64.wrap ((x1 : Int) * (y1 : Int)) = ((part a b 3 : Nat) : Int) := by
    have := part_le a b 3 ha hb
    have e : ((x1 : Int) * (y1 : Int)) = ((part a b 3 : Nat) : Int) := by rw [hx1, hy1]; simp [part]
    rw [e]; exact IntWalk.u64_in _ ⟨by omega, by omega⟩
  have H1 := Lib.hid (fun w => halves_any a w ha)
  have H2 := Lib.hid (fun w => halves_any b w hb)
  rw [← hx0, ← hx1] at H1
  rw [← hy0, ← hy1] at H2
  clear hx0 hx1 hy0 hy1
  go_enter Try.func19, Try.ntmps19
  go_wp2_with fail
  refine (H1.out _).mono ?_
  rintro e w1 ⟨rfl, b1⟩
  have z1 : w1.heap[w.heap.size]? = some (.cells #[.int .u64 0, .int .u64 0] 42 (0, 0)) := kept (heap_alloc_new w _) b1
  have b1 := below_al b1
  have Z1 := Lib.hid z1
  have B1 := Lib.hid b1
  clear b1 z1
  go_wp2_with fail
  refine (H2.out _).mono ?_
  rintro e w2 ⟨rfl, b2⟩
  have Z2 := Lib.hid (kept Z1.out b2)
  have B2 := Lib.hid (below_both B1.out b2)
  clear b2 B1 Z1
  have hlt2 : w.heap.size < w2.heap.size + 1 + 1 := by have := B2.out.size; omega
  have hstart : MInv w (w2.heap.size + 1 + 1) a b 0 ((((w2.alloc (.cells #[.int .u64 x0, .int .u64 x1] 39)).alloc (.cells #[.int .u64 y0, .int .u64 y1] 39)).alloc
      (.cells #[.int .u64 (part a b 0 : Nat), .int .u64 (part a b 1 : Nat), .int .u64 (part a b 2 : Nat), .int .u64 (part a b 3 : Nat)] 65)).alloc (.cells #[.int .u64 0, .int .u64 0] 42)) := by
    refine ⟨?_, ?_, ?_, hlt2, ?_⟩
    · have := heap_alloc2_old ((w2.alloc (.cells #[.int .u64 x0, .int .u64 x1] 39)).alloc (.cells #[.int .u64 y0, .int .u64 y1] 39)) (.cells #[.int .u64 (part a b 0 : Nat), .int .u64 (part a b 1 : Nat), .int .u64 (part a b 2 : Nat), .int .u64 (part a b 3 : Nat)] 65) (.cells #[.int .u64 0, .int .u64 0] 42)
      simpa using this
    · have := heap_alloc2_new ((w2.alloc (.cells #[.int .u64 x0, .int .u64 x1] 39)).alloc (.cells #[.int .u64 y0, .int .u64 y1] 39)) (.cells #[.int .u64 (part a b 0 : Nat), .int .u64 (part a b 1 : Nat), .int .u64 (part a b 2 : Nat), .int .u64 (part a b 3 : Nat)] 65) (.cells #[.int .u64 0, .int .u64 0] 42)
      simpa [psum, whi, wlo] using this
    · exact kept Z2.out ((below_two w2 _ _).trans (((Below.refl _ _).alloc (by simp; omega) _).alloc (by simp; omega) _))
    · exact B2.out.trans ((below_two w2 _ _).mono B2.out.size |>.trans (((Below.refl _ _).alloc (by have := B2.out.size; simp; omega) _).alloc (by have := B2.out.size; simp; omega) _))
  go_wp2
  clear Z2 B2 H1 H2 e0 e1 e2 e3
  generalize w2.heap.size + 1 + 1 = g at *
  go_loopw [35] (fun i wr => ∃ (j : Int) (k : Nat), Hid ((k : Int) = j) ∧ k ≤ 4 ∧ i = .int .i64 j ∧ MInv w g a b k wr) (fun i _ => (4 - intOf i).toNat)
  case atStart => exact ⟨0, 0, rfl, Nat.zero_le _, rfl, hstart⟩
  case round =>
    clear hstart
    obtain ⟨j, k, hj, hk, rfl, hinv⟩ := hrel
    have hle := psum_le a b k hk
    have p0 := cell_of_row wr g 0 _ _ _ hinv.1
    have p1 := cell_of_row wr g 1 _ _ _ hinv.1
    have p2 := cell_of_row wr g 2 _ _ _ hinv.1
    have p3 := cell_of_row wr g 3 _ _ _ hinv.1
    have s0 := cell_of_row wr (g + 1) 0 _ _ _ hinv.2.1
    have s1 := cell_of_row wr (g + 1) 1 _ _ _ hinv.2.1
    have hf0 := frozen_of_row wr (g + 1) 0 _ _ hinv.2.1
    have hf1 := frozen_of_row wr (g + 1) 1 _ _ hinv.2.1
    simp at p0 p1 p2 p3 s0 s1
    have HI := Lib.hid hinv
    clear hinv
    have : k = 0 ∨ k = 1 ∨ k = 2 ∨ k = 3 ∨ k = 4 := by omega
    rcases this with rfl | rfl | rfl | rfl | rfl
    · obtain rfl : j = 0 := hj.out.symm
      have hb0 := part_le a b 0 ha hb
      have hst := mul_step ha hb (k := 0) (by omega)
      have HST := Lib.hid hst
      have wh := whi_le (psum a b 0)
      have wl := wlo_le (psum a b 0)
      have rh := whi_le (part a b 0 * 2 ^ lift 0)
      have rl := wlo_le (part a b 0 * 2 ^ lift 0)
      clear hst hle hj
      go_wp2_with fail
      go_region_with (first
          | ((with_reducible refine (raise_part a b 0 _ _ ha hb (by with_unfolding_all decide)).mono ?_); rintro e w' ⟨rfl, hb'⟩; have HI := Lib.hid (MInv.below (MInv.drew HI.out) hb'); obtain ⟨q0, q1, q2, q3⟩ := HI.out.cells)
          | ((with_reducible refine (add_raw _ _ _ _ (psum a b (0 + 1)) false _ (by assumption) (by assumption) (by assumption) (by assumption) (Lib.hid HST.out.1) (Lib.hid HST.out.2)).mono ?_); rintro e w' ⟨rfl, hb'⟩; have HI := Lib.hid (MInv.below HI.out hb'); obtain ⟨q0, q1, q2, q3⟩ := HI.out.cells)
          | fail)
      all_goals
        go_wp2
        go_roundw
        case rel => exact ⟨1, 1, rfl, by omega, by go_num, HI.out.store⟩
        case measure => simp [intOf]
    · obtain rfl : j = 1 := hj.out.symm
      have hb0 := part_le a b 1 ha hb
      have hst := mul_step ha hb (k := 1) (by omega)
      have HST := Lib.hid hst
      have wh := whi_le (psum a b 1)
      have wl := wlo_le (psum a b 1)
      have rh := whi_le (part a b 1 * 2 ^ lift 1)
      have rl := wlo_le (part a b 1 * 2 ^ lift 1)
      clear hst hle hj
      go_wp2_with fail
      go_region_with (first
          | ((with_reducible refine (raise_part a b 1 _ _ ha hb (by with_unfolding_all decide)).mono ?_); rintro e w' ⟨rfl, hb'⟩; have HI := Lib.hid (MInv.below (MInv.drew HI.out) hb'); obtain ⟨q0, q1, q2, q3⟩ := HI.out.cells)
          | ((with_reducible refine (add_raw _ _ _ _ (psum a b (1 + 1)) false _ (by assumption) (by assumption) (by assumption) (by assumption) (Lib.hid HST.out.1) (Lib.hid HST.out.2)).mono ?_); rintro e w' ⟨rfl, hb'⟩; have HI := Lib.hid (MInv.below HI.out hb'); obtain ⟨q0, q1, q2, q3⟩ := HI.out.cells)
          | fail)
      all_goals
        go_wp2
        go_roundw
        case rel => exact ⟨2, 2, rfl, by omega, by go_num, HI.out.store⟩
        case measure => simp [intOf]
    · obtain rfl : j = 2 := hj.out.symm
      have hb0 := part_le a b 2 ha hb
      have hst := mul_step ha hb (k := 2) (by omega)
      have HST := Lib.hid hst
      have wh := whi_le (psum a b 2)
      have wl := wlo_le (psum a b 2)
      have rh := whi_le (part a b 2 * 2 ^ lift 2)
      have rl := wlo_le (part a b 2 * 2 ^ lift 2)
      clear hst hle hj
      go_wp2_with fail
      go_region_with (first
          | ((with_reducible refine (raise_part a b 2 _ _ ha hb (by with_unfolding_all decide)).mono ?_); rintro e w' ⟨rfl, hb'⟩; have HI := Lib.hid (MInv.below (MInv.drew HI.out) hb'); obtain ⟨q0, q1, q2, q3⟩ := HI.out.cells)
          | ((with_reducible refine (add_raw _ _ _ _ (psum a b (2 + 1)) false _ (by assumption) (by assumption) (by assumption) (by assumption) (Lib.hid HST.out.1) (Lib.hid HST.out.2)).mono ?_); rintro e w' ⟨rfl, hb'⟩; have HI := Lib.hid (MInv.below HI.out hb'); obtain ⟨q0, q1, q2, q3⟩ := HI.out.cells)
          | fail)
      all_goals
        go_wp2
        go_roundw
        case rel => exact ⟨3, 3, rfl, by omega, by go_num, HI.out.store⟩
        case measure => simp [intOf]
    · obtain rfl : j = 3 := hj.out.symm
      have hb0 := part_le a b 3 ha hb
      have hst := mul_step ha hb (k := 3) (by omega)
      have HST := Lib.hid hst
      have wh := whi_le (psum a b 3)
      have wl := wlo_le (psum a b 3)
      have rh := whi_le (part a b 3 * 2 ^ lift 3)
      have rl := wlo_le (part a b 3 * 2 ^ lift 3)
      clear hst hle hj
      go_wp2_with fail
      go_region_with (first
          | ((with_reducible refine (raise_part a b 3 _ _ ha hb (by with_unfolding_all decide)).mono ?_); rintro e w' ⟨rfl, hb'⟩; have HI := Lib.hid (MInv.below (MInv.drew HI.out) hb'); obtain ⟨q0, q1, q2, q3⟩ := HI.out.cells)
          | ((with_reducible refine (add_raw _ _ _ _ (psum a b (3 + 1)) false _ (by assumption) (by assumption) (by assumption) (by assumption) (Lib.hid HST.out.1) (Lib.hid HST.out.2)).mono ?_); rintro e w' ⟨rfl, hb'⟩; have HI := Lib.hid (MInv.below HI.out hb'); obtain ⟨q0, q1, q2, q3⟩ := HI.out.cells)
          | fail)
      all_goals
        go_wp2
        go_roundw
        case rel => exact ⟨4, 4, rfl, by omega, by go_num, HI.out.store⟩
        case measure => simp [intOf]
    · obtain rfl : j = 4 := hj.out.symm
      have hr0 := cell_of_row wr w.heap.size 0 _ _ _ HI.out.2.2.1
      have hr1 := cell_of_row wr w.heap.size 1 _ _ _ HI.out.2.2.1
      have fr0 := frozen_of_row wr w.heap.size 0 _ _ HI.out.2.2.1
      have fr1 := frozen_of_row wr w.heap.size 1 _ _ HI.out.2.2.1
      have h1 := heap_setCell_same wr w.heap.size 0 _ _ (.int .u64 (whi (a * b) : Nat)) HI.out.2.2.1
      have h2 := heap_setCell_same _ w.heap.size 1 _ _ (.int .u64 (wlo (a * b) : Nat)) h1
      have t0 := cell_of_row _ w.heap.size 0 _ _ _ h2
      have t1 := cell_of_row _ w.heap.size 1 _ _ _ h2
      simp at t0 t1
      rw [psum_four] at s0 s1
      go_wp2
      exact bodyPost_ret (v := .agg #[.int .u64 (whi (a * b) : Nat), .int .u64 (wlo (a * b) : Nat)]) (by simp [results, Try.results19, go_sem, t0, t1]) rfl ⟨rfl, (HI.out.2.2.2.2.setCell (Nat.le_refl _) _).setCell (Nat.le_refl _) _⟩
end Go.Proofs.Ytemgnaalmgkfiaa
