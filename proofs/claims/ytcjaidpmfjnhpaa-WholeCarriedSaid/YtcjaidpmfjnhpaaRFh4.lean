/-
  The document's Seal and Write of layer 10.
-/
import Derived.Test.YtcjaidpmfjnhpaaRFh3
import Derived.Test.YtcjaidpmfjnhpaaJoin2
import Derived.Test.YtcjaidpmfjnhpaaFh11
import Derived.Test.YtcjaidpmfjnhpaaRegCall
namespace Go.Proofs.Ytcjaidpmfjnhpaa
open Go.RowKit
set_option linter.unusedVariables false

theorem ihl_wrap {x : Int} (h0 : -9223372036854775808 ≤ x) (h1 : x ≤ 9223372036854775807) : (0 ≤ wrap64 (x - 5) ∧ wrap64 (x - 5) ≤ 10) ↔ (5 ≤ x ∧ x ≤ 15) := by
  unfold wrap64
  omega
set_option maxRecDepth 10000 in
set_option maxHeartbeats 6400000 in
theorem rfhseal_bad (A : Option Addr) (n c : Nat) (bs : List Nat) (w : World) (hc2 : n ≤ 140737488355328) (hc : n ≤ c) (hR : Row w A n bs) (h0 : fhdef n bs ≠ 0) :
    Calls Try.prog 27 #[.slice A n c] w fun e w' => e = .returned (.tuple #[.slice none 0 0, .int .i64 3]) ∧ Below w.heap.size w w' := by
  have C := Lib.hid (rfhread_any A n c bs w (by omega) hc hR)
  unfold ReadIs at C
  obtain ⟨X, hX⟩ : ∃ X, X = fhval n bs := ⟨_, rfl⟩
  have hXl : X.length = 17 := by rw [hX]; exact fhval_len n bs
  have hXo : ∀ v ∈ X, v.oneCell' = true := by rw [hX]; exact fhval_one n bs
  rw [← hX] at C
  obtain ⟨d, hdd⟩ : ∃ d, d = fhdef n bs := ⟨_, rfl⟩
  rw [← hdd] at C h0
  have d0 : ((d : Int) != 0) = true := bne_iff_ne.2 (by omega)
  clear hdd hR hc2 hc h0 hX
  go_enter Try.func27, Try.ntmps27
  go_wp2_with fail
  refine C.out.mono ?_
  rintro e w1 ⟨rfl, b1⟩
  obtain ⟨hst, hA, hb⟩ := four_stored w1 X hXl hXo
  have B1 := Lib.hid (below_both b1 hb)
  have A1 := Lib.hid hA
  clear b1 hA hb
  go_upto_region 2 with fail
  clear hst
  obtain ⟨W, eW⟩ : ∃ W, W = (w1.alloc (.cells #[.int .i64 0, .int .i64 0, .int .i64 0, .int .i64 0, .int .i64 0, .int .i64 0, .int .i64 0, .int .i64 0, .int .i64 0, .int .u8 0, .int .u8 0, .int .u8 0, .int .u8 0, .int .u8 0, .int .u8 0, .int .u8 0, .int .u8 0] 44)).setCells w1.heap.size 0 X := ⟨_, rfl⟩
  rw [← eW] at B1 A1 ⊢
  clear eW
  generalize w1.heap.size = gf at *
  go_wp2_with fail
  go_ret2
  exact ⟨rfl, B1.out⟩
set_option maxRecDepth 10000 in
set_option maxHeartbeats 6400000 in
theorem rfhseal_ok (A : Option Addr) (n c : Nat) (bs : List Nat) (w : World) (hc2 : n ≤ 140737488355328) (hc : n ≤ c) (hR : Row w A n bs) (h0 : fhdef n bs = 0) :
    Calls Try.prog 27 #[.slice A n c] w (SealIs w (fhseal bs (4 * (bs.getD 0 0 % 16)))) := by
  have C := Lib.hid (rfhread_any A n c bs w (by omega) hc hR)
  unfold ReadIs at C
  obtain ⟨X, hX⟩ : ∃ X, X = fhval n bs := ⟨_, rfl⟩
  have hXl : X.length = 17 := by rw [hX]; exact fhval_len n bs
  have hXo : ∀ v ∈ X, v.oneCell' = true := by rw [hX]; exact fhval_one n bs
  rw [← hX] at C
  rw [h0] at C
  obtain ⟨_, _, k1, k2, k3⟩ := fhdef_zero h0
  obtain ⟨y, hy⟩ : ∃ y, y = bs.getD 0 0 % 16 := ⟨_, rfl⟩
  have hXf : X = fhf bs := by rw [hX]; unfold fhval; rw [if_pos h0]
  have X0 : Hid (X[0]? = some (.int .i64 (y : Nat))) := by
    show X[0]? = _
    rw [hXf, hy]
    rfl
  obtain ⟨b, o, rfl, _, _⟩ := hR.addr (by omega)
  rw [← hy] at k2 k3 ⊢
  have y15 : y ≤ 15 := by omega
  have y5 : 5 ≤ y := by omega
  obtain ⟨m, hm⟩ : ∃ m, m = 4 * y := ⟨_, rfl⟩
  rw [← hm] at k3 ⊢
  have hmn : m ≤ n := by omega
  have HF : Hid (∀ w, Row w (some ⟨b, o, none⟩) n bs → Calls Try.prog 43 #[.slice (some ⟨b, o, none⟩) m c, .int .i64 10] w (TwoTo w (filled (bs.take m) 10) 0)) := fun w h => by
    have hp := h.part 0 m (by omega)
    rw [List.drop_zero, Nat.add_zero] at hp
    exact rfill_ok (some ⟨b, o, none⟩) m c 10 (bs.take m) w (by omega) (by omega) (by decide) (by omega) hp
  have hfl : Hid ((filled (bs.take m) 10).length = m) := by
    show _ = _
    rw [filled_length (by rw [List.length_take, hR.1]; omega), List.length_take, hR.1]
    omega
  have HS : Hid (fhseal bs m = filled (bs.take m) 10 ++ bs.drop m) := rfl
  have HT : Hid (∀ w, Row w (some ⟨b, o, none⟩) n bs → Row w (if c = m then some ⟨b, o, none⟩ else some ⟨b, o + m, none⟩) (n - m) (bs.drop m)) := fun w h => by
    split
    · have hnm : n = m := by omega
      subst hnm
      rw [Nat.sub_self, List.drop_of_length_le (by rw [h.1]; exact Nat.le_refl _)]
      exact Row.nil _ _
    · have hp := h.part m (n - m) (by omega)
      rw [List.take_of_length_le (by rw [List.length_drop, h.1]; exact Nat.le_refl _)] at hp
      exact hp
  generalize filled (bs.take m) 10 = F at *
  obtain ⟨y15I, y0I, ycI, ynI, yN, yW, m60, m20⟩ := rfh_ints hm y5 y15 hmn hc
  have hlen : Hid (m + (n - m) ≤ 140737488355328) := by show m + (n - m) ≤ _; omega
  have HR := Lib.hid hR
  have mI : 4 * (y : Int) = (m : Int) := by omega
  have mcI : (m : Int) ≤ (c : Int) := by omega
  have mnI : (m : Int) ≤ (n : Int) := by omega
  have sI : ((n : Int) - (m : Int)).toNat = n - m := by omega
  clear hm k1 k2 k3 h0 hR hc hc2 hX hXf hy y15 y5 m60 m20 hmn y0I ycI ynI yN yW
  go_enter Try.func27, Try.ntmps27
  go_wp2_with fail
  refine C.out.mono ?_
  rintro e w1 ⟨rfl, b1⟩
  obtain ⟨hst, hA, hb⟩ := four_stored w1 X hXl hXo
  have B1 := Lib.hid (below_both b1 hb)
  have A1 := Lib.hid hA
  clear b1 hA hb
  go_upto_region 2 with fail
  clear hst
  obtain ⟨W, eW⟩ : ∃ W, W = (w1.alloc (.cells #[.int .i64 0, .int .i64 0, .int .i64 0, .int .i64 0, .int .i64 0, .int .i64 0, .int .i64 0, .int .i64 0, .int .i64 0, .int .u8 0, .int .u8 0, .int .u8 0, .int .u8 0, .int .u8 0, .int .u8 0, .int .u8 0, .int .u8 0] 44)).setCells w1.heap.size 0 X := ⟨_, rfl⟩
  rw [← eW] at B1 A1 ⊢
  clear eW
  generalize w1.heap.size = gf at *
  have R1 := Lib.hid (HR.out.below B1.out)
  have x0 := (A1.out.get 0).trans X0.out
  go_wp2_with fail
  refine (HF.out _ R1.out).mono ?_
  rintro e w2 ⟨v2, rfl, ⟨A2, c2, rfl, hc2, r2⟩, b2⟩
  rw [hfl.out] at r2 ⊢
  have R2 := Lib.hid (R1.out.below b2)
  have F2 := Lib.hid r2
  have x0 := (A1.out.below b2).get 0
  rw [X0.out] at x0
  have B2 := Lib.hid (below_both B1.out b2)
  clear b2 r2 hc2
  have HTW := Lib.hid (HT.out w2 R2.out)
  go_upto_region 5 with fail
  by_cases hcm : c = m
  · subst hcm
    rw [if_pos rfl] at HTW
    go_wp2_with (go_at_call 44; refine (join_two w2.heap.size _ _ _ _ _ _ _ _ _ _ (by rw [cell_of_row _ _ _ _ _ _ (heap_alloc_new w2 _)]; rfl) (by rw [cell_of_row _ _ _ _ _ _ (heap_alloc_new w2 _)]; rfl) (F2.out.alloc _) (HTW.out.alloc _) hlen.out).mono ?_; rintro e w' ⟨v, rfl, h1, h2⟩; have O3 := Lib.hid h1; have B3 := Lib.hid h2; clear h1 h2)
    go_ret2
    have hb3 := below_al B3.out
    rw [HS.out]
    exact ⟨_, rfl, O3.out.mono (Nat.le_trans B2.out.size (by simp)), below_both B2.out hb3⟩
  · rw [if_neg hcm] at HTW
    go_wp2_with (go_at_call 44; refine (join_two w2.heap.size _ _ _ _ _ _ _ _ _ _ (by rw [cell_of_row _ _ _ _ _ _ (heap_alloc_new w2 _)]; rfl) (by rw [cell_of_row _ _ _ _ _ _ (heap_alloc_new w2 _)]; rfl) (F2.out.alloc _) (HTW.out.alloc _) hlen.out).mono ?_; rintro e w' ⟨v, rfl, h1, h2⟩; have O3 := Lib.hid h1; have B3 := Lib.hid h2; clear h1 h2)
    go_ret2
    have hb3 := below_al B3.out
    rw [HS.out]
    exact ⟨_, rfl, O3.out.mono (Nat.le_trans B2.out.size (by simp)), below_both B2.out hb3⟩
end Go.Proofs.Ytcjaidpmfjnhpaa
