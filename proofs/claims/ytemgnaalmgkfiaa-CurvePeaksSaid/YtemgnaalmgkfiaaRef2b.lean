/-
  The contract of the document's whole.
-/
import Derived.Test.YtemgnaalmgkfiaaRef2a
namespace Go.Proofs.Ytemgnaalmgkfiaa
open Go.RowKit
set_option linter.unusedVariables false
attribute [local go_sem ↓] Go.wp_at_zero Go.wp_at_succ

/-- What stands while whole goes. -/
structure WInv (w : World) (f : Nat → Nat) (k : Nat) (W : World) : Prop where
  row : Bl W w.heap.size f
  out : W.heap[w.heap.size + 1]? = some (.cells #[.int .u64 0, .int .u64 0] 42 (0, 0))
  acc : W.heap[w.heap.size + 1 + 1]? = some (.cells #[.int .u64 (hval f 64 64 k : Nat), .int .u64 (hval f 0 64 k : Nat)] 42 (0, 0))
  below : Below w.heap.size w W
theorem WInv.drew {w W : World} {f : Nat → Nat} {k : Nat} (h : WInv w f k W) : WInv w f k W.drew := ⟨h.row.drew, h.out, h.acc, h.below.drew⟩
theorem WInv.step {w W : World} {f : Nat → Nat} {p x y : Nat} (h : WInv w f (p + 1) W) (hx : x = hval f 0 64 p) (hy : y = hval f 64 64 p) :
    WInv w f p (((W.drew.setCell ⟨w.heap.size + 1 + 1, 1, none⟩ (.int .u64 (x : Nat))).drew).setCell ⟨w.heap.size + 1 + 1, 0, none⟩ (.int .u64 (y : Nat))) := by
  subst hx hy
  refine ⟨?_, ?_, ?_, ?_⟩
  · exact ((h.row.drew.other _ _ (by simp; omega)).drew).other _ _ (by simp; omega)
  · exact (heap_setCell_other _ _ _ _ (by simp)).trans ((heap_setCell_other W.drew _ _ _ (by simp)).trans h.out)
  · have h1 := heap_setCell_same W.drew (w.heap.size + 1 + 1) 1 _ _ (.int .u64 (hval f 0 64 p : Nat)) h.acc
    exact heap_setCell_same _ (w.heap.size + 1 + 1) 0 _ _ (.int .u64 (hval f 64 64 p : Nat)) h1
  · exact (((h.below.drew).setCell (by simp; omega) _).drew).setCell (by simp; omega) _

set_option maxHeartbeats 1600000 in
theorem whole_any (f : Nat → Nat) (w : World) (hf : Hid (∀ i, f i ≤ 1)) :
    Calls Try.prog 43 #[.agg (fcells f).toArray] w fun e w' => e = .returned (.agg #[.int .u64 (whi (lval f 128) : Nat), .int .u64 (wlo (lval f 128) : Nat)]) ∧ Below w.heap.size w w' := by
  go_enter Try.func43, Try.ntmps43
  go_wp2_with fail
  go_loopw [4] (fun i wr => ∃ (j : Int) (k : Nat), Hid ((k : Int) = j + 1) ∧ k ≤ 64 ∧ i = .int .i64 j ∧ Hid (WInv w f k wr)) (fun i _ => (intOf i + 1).toNat)
  case atStart =>
    refine ⟨63, 64, rfl, by omega, rfl, ?_⟩
    have e0 : ∀ o, hval f o 64 64 = 0 := fun o => by unfold hval; rw [Nat.sub_self]; rfl
    refine ⟨((Bl.new w f).alloc _).alloc _, ?_, ?_, below_three _ _ _ _⟩
    · rw [Below.heap_alloc _ _ _ (by simp)]
      exact heap_alloc2_new _ _ _
    · rw [e0, e0]
      have := heap_alloc_new ((w.alloc (.cells (fcells f).toArray 70)).alloc (.cells #[.int .u64 0, .int .u64 0] 42)) (.cells #[.int .u64 0, .int .u64 0] 42)
      simpa using this
  case round =>
    obtain ⟨j, k, hj, hk, rfl, HW⟩ := hrel
    cases k with
    | zero =>
      obtain rfl : j = -1 := by have := hj.out; omega
      have hr0 := cell_of_row wr (w.heap.size + 1 + 1) 0 _ _ _ HW.out.acc
      have hr1 := cell_of_row wr (w.heap.size + 1 + 1) 1 _ _ _ HW.out.acc
      have fr0 := frozen_of_row wr (w.heap.size + 1) 0 _ _ HW.out.out
      have fr1 := frozen_of_row wr (w.heap.size + 1) 1 _ _ HW.out.out
      have or0 := cell_of_row wr (w.heap.size + 1) 0 _ _ _ HW.out.out
      have or1 := cell_of_row wr (w.heap.size + 1) 1 _ _ _ HW.out.out
      rw [← (lval_words f hf.out).1, ← (lval_words f hf.out).2] at *
      simp at hr0 hr1 or0 or1
      clear hk hj
      have h1 := heap_setCell_same wr (w.heap.size + 1) 0 _ _ (.int .u64 (whi (lval f 128) : Nat)) HW.out.out
      have h2 := heap_setCell_same _ (w.heap.size + 1) 1 _ _ (.int .u64 (wlo (lval f 128) : Nat)) h1
      have t0 := cell_of_row _ (w.heap.size + 1) 0 _ _ _ h2
      have t1 := cell_of_row _ (w.heap.size + 1) 1 _ _ _ h2
      simp at t0 t1
      go_wp2_with fail
      exact bodyPost_ret (v := .agg #[.int .u64 (whi (lval f 128) : Nat), .int .u64 (wlo (lval f 128) : Nat)]) (by simp [results, Try.results43, go_sem, t0, t1]) rfl
        ⟨rfl, (HW.out.below.setCell (by simp) _).setCell (by simp) _⟩
    | succ p =>
      obtain rfl : j = (p : Int) := by have := hj.out; omega
      obtain ⟨x, hx⟩ : ∃ x, x = hval f 0 64 (p + 1) := ⟨_, rfl⟩
      obtain ⟨y, hy⟩ : ∃ y, y = hval f 64 64 (p + 1) := ⟨_, rfl⟩
      obtain ⟨u, hu⟩ : ∃ u, u = f p := ⟨_, rfl⟩
      obtain ⟨v, hv⟩ : ∃ v, v = f (64 + p) := ⟨_, rfl⟩
      have hu1 : u ≤ 1 := by rw [hu]; exact hf.out p
      have hv1 : v ≤ 1 := by rw [hv]; exact hf.out (64 + p)
      obtain ⟨x2, hx2⟩ : ∃ x2, x2 = x * 2 := ⟨_, rfl⟩
      obtain ⟨y2, hy2⟩ : ∃ y2, y2 = y * 2 := ⟨_, rfl⟩
      obtain ⟨x3, hx3⟩ : ∃ x3, x3 = x2 + u := ⟨_, rfl⟩
      obtain ⟨y3, hy3⟩ : ∃ y3, y3 = y2 + v := ⟨_, rfl⟩
      have hpw : 2 ^ (64 - (p + 1)) ≤ 2 ^ 63 := Nat.pow_le_pow_right (by decide) (by omega)
      have hxl : x < 2 ^ (64 - (p + 1)) := by rw [hx]; exact hval_lt f hf.out 0 64 (p + 1)
      have hyl : y < 2 ^ (64 - (p + 1)) := by rw [hy]; exact hval_lt f hf.out 64 64 (p + 1)
      have hxs : x < 9223372036854775808 := Nat.lt_of_lt_of_le hxl hpw
      have hys : y < 9223372036854775808 := Nat.lt_of_lt_of_le hyl hpw
      clear hpw hxl hyl
      have ex : x3 = hval f 0 64 p := by rw [hx3, hx2, hx, hu, hval_step f 0 64 p (by omega), Nat.zero_add]
      have ey : y3 = hval f 64 64 p := by rw [hy3, hy2, hy, hv, hval_step f 64 64 p (by omega)]
      have HS := Lib.hid (HW.out.step ex ey)
      have c0 := cell_of_row wr (w.heap.size + 1 + 1) 0 _ _ _ HW.out.acc
      have c1 := cell_of_row wr (w.heap.size + 1 + 1) 1 _ _ _ HW.out.acc
      have f0 := frozen_of_row wr (w.heap.size + 1 + 1) 0 _ _ HW.out.acc
      have f1 := frozen_of_row wr (w.heap.size + 1 + 1) 1 _ _ HW.out.acc
      have d0 := HW.out.row.cell p (by omega)
      have d1 := HW.out.row.cell (64 + p) (by omega)
      rw [← hx] at c1
      rw [← hy] at c0
      rw [← hu] at d0
      rw [← hv] at d1
      simp at c0 c1
      clear ex ey hx hy hu hv
      have t1 : IntKind.u64.wrap ((x : Int) * 2) = (x2 : Int) := by
        have e : ((x : Int) * 2) = (x2 : Int) := by omega
        rw [e]; exact wrap_nat _ (by omega)
      have t2 : IntKind.u64.wrap ((y : Int) * 2) = (y2 : Int) := by
        have e : ((y : Int) * 2) = (y2 : Int) := by omega
        rw [e]; exact wrap_nat _ (by omega)
      have t3 : IntKind.u64.wrap (u : Int) = (u : Int) := wrap_nat _ (by omega)
      have t4 : IntKind.u64.wrap (v : Int) = (v : Int) := wrap_nat _ (by omega)
      have t5 : IntKind.u64.wrap ((x2 : Int) + (u : Int)) = (x3 : Int) := by
        have e : ((x2 : Int) + (u : Int)) = (x3 : Int) := by omega
        rw [e]; exact wrap_nat _ (by omega)
      have t6 : IntKind.u64.wrap ((y2 : Int) + (v : Int)) = (y3 : Int) := by
        have e : ((y2 : Int) + (v : Int)) = (y3 : Int) := by omega
        rw [e]; exact wrap_nat _ (by omega)
      have i0 : (0 : Int) ≤ (p : Int) := by omega
      have i1 : (p : Int) < 128 := by omega
      have i2 : IntKind.i64.wrap (64 + (p : Int)) = 64 + (p : Int) := IntWalk.i64_in _ ⟨by omega, by omega⟩
      have i3 : (0 : Int) ≤ 64 + (p : Int) := by omega
      have i4 : 64 + (p : Int) < 128 := by omega
      have i5 : (64 + (p : Int)).toNat = 64 + p := by omega
      have HK := Lib.hid hk
      clear hx2 hy2 hx3 hy3 hxs hys hk hj hu1 hv1
      go_wp2_with fail
      go_region_with (fail)
      all_goals
        go_wp2_with fail
        go_region_with (fail)
      all_goals
        go_wp2_with fail
        go_roundw
        case rel => exact ⟨(p : Int) - 1, p, by show (p : Int) = (p : Int) - 1 + 1; omega, by have := HK.out; omega, by go_num, HS.out⟩
        case measure => simp [intOf]
end Go.Proofs.Ytemgnaalmgkfiaa
