/-
  The contract of colons' Sort.
-/
import Derived.Test.YtdeoeikpooonlaaDoorCol7
import Derived.Laws.BitsAllLaws
namespace Go.Proofs.YtdeoeikpooonlaaDoor
open Go.RowKit
set_option linter.unusedVariables false

def loop16 : List Nat := [0, 0, 0, 0, 0, 0, 0, 0, 0, 0, 0, 0, 0, 0, 0, 1]
/-- The sort of an address. -/
def csort (X : List Nat) : ByteArray :=
  if X = zero16 then ⟨#[110, 111, 110, 101]⟩
  else if X = loop16 then ⟨#[108, 111, 111, 112]⟩
  else if X.take 12 = mp then ⟨#[102, 111, 117, 114]⟩
  else if X.getD 0 0 = 255 then ⟨#[103, 114, 111, 117, 112]⟩
  else if X.getD 0 0 = 254 ∧ 128 ≤ X.getD 1 0 ∧ X.getD 1 0 < 192 then ⟨#[108, 105, 110, 107]⟩
  else if X.getD 0 0 = 252 ∨ X.getD 0 0 = 253 then ⟨#[112, 114, 105, 118, 97, 116, 101]⟩
  else ⟨#[104, 111, 115, 116]⟩
theorem unmap_all (X : List Nat) (hX : X.length = 16) : ∃ a b c d : Nat, ∀ w, Calls Tryd.prog 26 #[.agg (bcells X).toArray] w fun e w' =>
    e = .returned (.tuple #[.agg #[.int .u8 a, .int .u8 b, .int .u8 c, .int .u8 d], .bool (decide (X.take 12 = mp))]) ∧ Below w.heap.size w w' := by
  by_cases h : X.take 12 = mp
  · have hd : (X.drop 12).length = 4 := by rw [List.length_drop, hX]
    obtain ⟨a, b, c, d, e⟩ : ∃ a b c d, X.drop 12 = [a, b, c, d] := by
      match X.drop 12, hd with
      | [a, b, c, d], _ => exact ⟨a, b, c, d, rfl⟩
    have e2 : X = mp ++ [a, b, c, d] := by rw [← h, ← e, List.take_append_drop]
    refine ⟨a, b, c, d, fun w => ?_⟩
    rw [decide_eq_true h, e2]
    exact unmap_yes a b c d w
  · refine ⟨0, 0, 0, 0, fun w => ?_⟩
    rw [decide_eq_false h]
    exact unmap_no X w hX h
theorem link_bits : ∀ y, y < 256 → ((y &&& 192 = 128) ↔ (128 ≤ y ∧ y < 192)) := by decide +kernel
theorem priv_bits : ∀ x, x < 256 → ((x &&& 254 = 252) ↔ (x = 252 ∨ x = 253)) := by decide +kernel
theorem same_lit16 (X M : List Nat) (hX : X.length = 16) (hM : M.length = 16) (b : Bool) (hb : b = decide (X = M)) (w : World) : (Op.equalIn 10000 37 (.agg (bcells X).toArray) (.agg (bcells M).toArray)).run Tryd.prog w = .ok b w := by
  rw [hb]
  exact same_nat Tryd.underlying37 X M hX hM w

set_option maxRecDepth 10000 in
set_option maxHeartbeats 3200000 in
theorem csort_any (X : List Nat) (w : World) (hX : X.length = 16) (bX : ∀ x ∈ X, x < 256) : Calls Tryd.prog 33 #[.agg (bcells X).toArray] w fun e w' => e = .returned (.string (csort X)) ∧ Below w.heap.size w w' := by
  have hs : (bcells X).length = 16 := by rw [bcells_length, hX]
  have HX := Lib.hid hX
  have A0 : Hid (ArrV 37 (w.alloc (.cells (bcells X).toArray 37)) w.heap.size (bcells X)) := ArrV.new _ w _
  have B0 : Hid (Below w.heap.size w (w.alloc (.cells (bcells X).toArray 37))) := (Below.refl _ _).alloc (Nat.le_refl _) _
  obtain ⟨a, b, c, d, hU⟩ := unmap_all X hX
  have CU := Lib.hid hU
  clear hU
  by_cases hz0 : X = zero16
  · have HZ := Lib.hid hz0
    have HF : Hid (csort X = ⟨#[110, 111, 110, 101]⟩) := by show _ = _; rw [csort, if_pos hz0]
    clear hz0 hX bX
    have hz : ∀ w, (Op.equalIn 10000 37 (.agg (bcells X).toArray) (.agg #[.int .u8 0, .int .u8 0, .int .u8 0, .int .u8 0, .int .u8 0, .int .u8 0, .int .u8 0, .int .u8 0, .int .u8 0, .int .u8 0, .int .u8 0, .int .u8 0, .int .u8 0, .int .u8 0, .int .u8 0, .int .u8 0])).run Tryd.prog w = .ok true w := fun w => same_lit16 X zero16 HX.out rfl true (by rw [decide_eq_true HZ.out]) w
    go_enter Tryd.func33, Tryd.ntmps33
    go_upto_region 1 with fail
    refine wp_region_lit ?_
    go_wp2_with (refine wpList_load_v rfl 37 (.tmp 1) rfl _ rfl ty16 A0.out hs ?_)
    refine (CU.out _).mono ?_
    rintro e w1 ⟨rfl, b1⟩
    have A1 := Lib.hid ((A0.out.below b1).alloc (.cells #[.int .u8 a, .int .u8 b, .int .u8 c, .int .u8 d] 38))
    have B1 := Lib.hid ((below_both B0.out b1).alloc (below_both B0.out b1).size (.cells #[.int .u8 a, .int .u8 b, .int .u8 c, .int .u8 d] 38))
    clear b1 CU A0 B0
    go_upto_region 2 with fail
    refine wp_region_lit ?_
    go_wp2_with (refine wpList_load_v rfl 37 (.tmp 1) rfl _ rfl ty16 A1.out hs ?_)
    go_ret
    exact ⟨by rw [HF.out]; rfl, B1.out⟩
  by_cases hl0 : X = loop16
  · have HZ := Lib.hid hz0
    have HLP := Lib.hid hl0
    have HF : Hid (csort X = ⟨#[108, 111, 111, 112]⟩) := by show _ = _; rw [csort, if_neg hz0, if_pos hl0]
    clear hz0 hl0 hX bX
    have hlp : ∀ w, (Op.equalIn 10000 37 (.agg (bcells X).toArray) (.agg #[.int .u8 0, .int .u8 0, .int .u8 0, .int .u8 0, .int .u8 0, .int .u8 0, .int .u8 0, .int .u8 0, .int .u8 0, .int .u8 0, .int .u8 0, .int .u8 0, .int .u8 0, .int .u8 0, .int .u8 0, .int .u8 1])).run Tryd.prog w = .ok true w := fun w => same_lit16 X loop16 HX.out rfl true (by rw [decide_eq_true HLP.out]) w
    have hz : ∀ w, (Op.equalIn 10000 37 (.agg (bcells X).toArray) (.agg #[.int .u8 0, .int .u8 0, .int .u8 0, .int .u8 0, .int .u8 0, .int .u8 0, .int .u8 0, .int .u8 0, .int .u8 0, .int .u8 0, .int .u8 0, .int .u8 0, .int .u8 0, .int .u8 0, .int .u8 0, .int .u8 0])).run Tryd.prog w = .ok false w := fun w => same_lit16 X zero16 HX.out rfl false (by rw [decide_eq_false HZ.out]) w
    go_enter Tryd.func33, Tryd.ntmps33
    go_upto_region 1 with fail
    refine wp_region_lit ?_
    go_wp2_with (refine wpList_load_v rfl 37 (.tmp 1) rfl _ rfl ty16 A0.out hs ?_)
    refine (CU.out _).mono ?_
    rintro e w1 ⟨rfl, b1⟩
    have A1 := Lib.hid ((A0.out.below b1).alloc (.cells #[.int .u8 a, .int .u8 b, .int .u8 c, .int .u8 d] 38))
    have B1 := Lib.hid ((below_both B0.out b1).alloc (below_both B0.out b1).size (.cells #[.int .u8 a, .int .u8 b, .int .u8 c, .int .u8 d] 38))
    clear b1 CU A0 B0
    go_upto_region 2 with fail
    refine wp_region_lit ?_
    go_wp2_with (refine wpList_load_v rfl 37 (.tmp 1) rfl _ rfl ty16 A1.out hs ?_)
    go_ret
    exact ⟨by rw [HF.out]; rfl, B1.out⟩
  have HZ := Lib.hid hz0
  have HLP := Lib.hid hl0
  by_cases h4 : X.take 12 = mp
  · have HF : Hid (csort X = ⟨#[102, 111, 117, 114]⟩) := by show _ = _; rw [csort, if_neg hz0, if_neg hl0, if_pos h4]
    rw [decide_eq_true h4] at CU
    clear hz0 hl0 hX bX h4
    have hlp : ∀ w, (Op.equalIn 10000 37 (.agg (bcells X).toArray) (.agg #[.int .u8 0, .int .u8 0, .int .u8 0, .int .u8 0, .int .u8 0, .int .u8 0, .int .u8 0, .int .u8 0, .int .u8 0, .int .u8 0, .int .u8 0, .int .u8 0, .int .u8 0, .int .u8 0, .int .u8 0, .int .u8 1])).run Tryd.prog w = .ok false w := fun w => same_lit16 X loop16 HX.out rfl false (by rw [decide_eq_false HLP.out]) w
    have hz : ∀ w, (Op.equalIn 10000 37 (.agg (bcells X).toArray) (.agg #[.int .u8 0, .int .u8 0, .int .u8 0, .int .u8 0, .int .u8 0, .int .u8 0, .int .u8 0, .int .u8 0, .int .u8 0, .int .u8 0, .int .u8 0, .int .u8 0, .int .u8 0, .int .u8 0, .int .u8 0, .int .u8 0])).run Tryd.prog w = .ok false w := fun w => same_lit16 X zero16 HX.out rfl false (by rw [decide_eq_false HZ.out]) w
    go_enter Tryd.func33, Tryd.ntmps33
    go_upto_region 1 with fail
    refine wp_region_lit ?_
    go_wp2_with (refine wpList_load_v rfl 37 (.tmp 1) rfl _ rfl ty16 A0.out hs ?_)
    refine (CU.out _).mono ?_
    rintro e w1 ⟨rfl, b1⟩
    have A1 := Lib.hid ((A0.out.below b1).alloc (.cells #[.int .u8 a, .int .u8 b, .int .u8 c, .int .u8 d] 38))
    have B1 := Lib.hid ((below_both B0.out b1).alloc (below_both B0.out b1).size (.cells #[.int .u8 a, .int .u8 b, .int .u8 c, .int .u8 d] 38))
    clear b1 CU A0 B0
    go_upto_region 2 with fail
    refine wp_region_lit ?_
    go_wp2_with (refine wpList_load_v rfl 37 (.tmp 1) rfl _ rfl ty16 A1.out hs ?_)
    go_ret
    exact ⟨by rw [HF.out]; rfl, B1.out⟩
  have HE : Hid (csort X = if X.getD 0 0 = 255 then ⟨#[103, 114, 111, 117, 112]⟩
  else if X.getD 0 0 = 254 ∧ 128 ≤ X.getD 1 0 ∧ X.getD 1 0 < 192 then ⟨#[108, 105, 110, 107]⟩
  else if X.getD 0 0 = 252 ∨ X.getD 0 0 = 253 then ⟨#[112, 114, 105, 118, 97, 116, 101]⟩
  else ⟨#[104, 111, 115, 116]⟩) := by show _ = _; rw [csort, if_neg hz0, if_neg hl0, if_neg h4]
  rw [decide_eq_false h4] at CU
  have hx := getD_byte bX 0
  have hy := getD_byte bX 1
  have HC : Hid (∀ (W : World), ArrV 37 W w.heap.size (bcells X) → W.cell? ⟨w.heap.size, 0, none⟩ = some (.int .u8 (X.getD 0 0 : Nat)) ∧ W.cell? ⟨w.heap.size, 1, none⟩ = some (.int .u8 (X.getD 1 0 : Nat))) := by
    intro W h
    rw [h.get, h.get]
    simp [bcells, hX]
  clear hz0 hl0 h4 hX bX
  generalize X.getD 0 0 = x at *
  generalize X.getD 1 0 = y at *
  have k1 := u8_and_nat y 192 hy (by decide)
  have k2 := u8_and_nat x 254 hx (by decide)
  have l1 := link_bits y hy
  have l2 := priv_bits x hx
  have k1' : bits .and .u8 (y : Int) 192 = ((y &&& 192 : Nat) : Int) := k1
  have k2' : bits .and .u8 (x : Int) 254 = ((x &&& 254 : Nat) : Int) := k2
  generalize y &&& 192 = ym at *
  generalize x &&& 254 = xm at *
  clear k1 k2
  by_cases g1 : x = 255
  · have HF : Hid (csort X = ⟨#[103, 114, 111, 117, 112]⟩) := by show _ = _; rw [HE.out, if_pos g1]
    have i1 : ((x : Int) == 255) = true := by simp; omega
    clear l1 l2 hx hy g1 k1' k2' HE
    have hlp : ∀ w, (Op.equalIn 10000 37 (.agg (bcells X).toArray) (.agg #[.int .u8 0, .int .u8 0, .int .u8 0, .int .u8 0, .int .u8 0, .int .u8 0, .int .u8 0, .int .u8 0, .int .u8 0, .int .u8 0, .int .u8 0, .int .u8 0, .int .u8 0, .int .u8 0, .int .u8 0, .int .u8 1])).run Tryd.prog w = .ok false w := fun w => same_lit16 X loop16 HX.out rfl false (by rw [decide_eq_false HLP.out]) w
    have hz : ∀ w, (Op.equalIn 10000 37 (.agg (bcells X).toArray) (.agg #[.int .u8 0, .int .u8 0, .int .u8 0, .int .u8 0, .int .u8 0, .int .u8 0, .int .u8 0, .int .u8 0, .int .u8 0, .int .u8 0, .int .u8 0, .int .u8 0, .int .u8 0, .int .u8 0, .int .u8 0, .int .u8 0])).run Tryd.prog w = .ok false w := fun w => same_lit16 X zero16 HX.out rfl false (by rw [decide_eq_false HZ.out]) w
    go_enter Tryd.func33, Tryd.ntmps33
    go_upto_region 1 with fail
    refine wp_region_lit ?_
    go_wp2_with (refine wpList_load_v rfl 37 (.tmp 1) rfl _ rfl ty16 A0.out hs ?_)
    refine (CU.out _).mono ?_
    rintro e w1 ⟨rfl, b1⟩
    have A1 := Lib.hid ((A0.out.below b1).alloc (.cells #[.int .u8 a, .int .u8 b, .int .u8 c, .int .u8 d] 38))
    have B1 := Lib.hid ((below_both B0.out b1).alloc (below_both B0.out b1).size (.cells #[.int .u8 a, .int .u8 b, .int .u8 c, .int .u8 d] 38))
    clear b1 CU A0 B0
    obtain ⟨c0, c1⟩ := HC.out _ A1.out
    go_upto_region 2 with fail
    refine wp_region_lit ?_
    go_wp2_with (refine wpList_load_v rfl 37 (.tmp 1) rfl _ rfl ty16 A1.out hs ?_)
    go_ret
    exact ⟨by rw [HF.out]; rfl, B1.out⟩
  have i1 : ((x : Int) == 255) = false := by simp; omega
  by_cases g2 : x = 254
  · have i2 : ((x : Int) == 254) = true := by simp; omega
    by_cases g3 : 128 ≤ y ∧ y < 192
    · have HF : Hid (csort X = ⟨#[108, 105, 110, 107]⟩) := by show _ = _; rw [HE.out, if_neg g1, if_pos ⟨g2, g3⟩]
      have i3 : ((ym : Int) == 128) = true := by have := l1.2 g3; simp; omega
      clear l1 l2 hx hy g1 g2 g3 k2' HE
      have hlp : ∀ w, (Op.equalIn 10000 37 (.agg (bcells X).toArray) (.agg #[.int .u8 0, .int .u8 0, .int .u8 0, .int .u8 0, .int .u8 0, .int .u8 0, .int .u8 0, .int .u8 0, .int .u8 0, .int .u8 0, .int .u8 0, .int .u8 0, .int .u8 0, .int .u8 0, .int .u8 0, .int .u8 1])).run Tryd.prog w = .ok false w := fun w => same_lit16 X loop16 HX.out rfl false (by rw [decide_eq_false HLP.out]) w
      have hz : ∀ w, (Op.equalIn 10000 37 (.agg (bcells X).toArray) (.agg #[.int .u8 0, .int .u8 0, .int .u8 0, .int .u8 0, .int .u8 0, .int .u8 0, .int .u8 0, .int .u8 0, .int .u8 0, .int .u8 0, .int .u8 0, .int .u8 0, .int .u8 0, .int .u8 0, .int .u8 0, .int .u8 0])).run Tryd.prog w = .ok false w := fun w => same_lit16 X zero16 HX.out rfl false (by rw [decide_eq_false HZ.out]) w
      go_enter Tryd.func33, Tryd.ntmps33
      go_upto_region 1 with fail
      refine wp_region_lit ?_
      go_wp2_with (refine wpList_load_v rfl 37 (.tmp 1) rfl _ rfl ty16 A0.out hs ?_)
      refine (CU.out _).mono ?_
      rintro e w1 ⟨rfl, b1⟩
      have A1 := Lib.hid ((A0.out.below b1).alloc (.cells #[.int .u8 a, .int .u8 b, .int .u8 c, .int .u8 d] 38))
      have B1 := Lib.hid ((below_both B0.out b1).alloc (below_both B0.out b1).size (.cells #[.int .u8 a, .int .u8 b, .int .u8 c, .int .u8 d] 38))
      clear b1 CU A0 B0
      obtain ⟨c0, c1⟩ := HC.out _ A1.out
      go_upto_region 2 with fail
      refine wp_region_lit ?_
      go_wp2_with (refine wpList_load_v rfl 37 (.tmp 1) rfl _ rfl ty16 A1.out hs ?_)
      go_ret
      exact ⟨by rw [HF.out]; rfl, B1.out⟩
    · have HF : Hid (csort X = ⟨#[104, 111, 115, 116]⟩) := by show _ = _; rw [HE.out, if_neg g1, if_neg (fun h => g3 h.2), if_neg (by omega)]
      have i3 : ((ym : Int) == 128) = false := by have : ¬ ym = 128 := fun e => g3 (l1.1 e); simp; omega
      have i4 : ((xm : Int) == 252) = false := by have : ¬ xm = 252 := fun e => absurd (l2.1 e) (by omega); simp; omega
      clear l1 l2 hx hy g1 g2 g3 HE
      have hlp : ∀ w, (Op.equalIn 10000 37 (.agg (bcells X).toArray) (.agg #[.int .u8 0, .int .u8 0, .int .u8 0, .int .u8 0, .int .u8 0, .int .u8 0, .int .u8 0, .int .u8 0, .int .u8 0, .int .u8 0, .int .u8 0, .int .u8 0, .int .u8 0, .int .u8 0, .int .u8 0, .int .u8 1])).run Tryd.prog w = .ok false w := fun w => same_lit16 X loop16 HX.out rfl false (by rw [decide_eq_false HLP.out]) w
      have hz : ∀ w, (Op.equalIn 10000 37 (.agg (bcells X).toArray) (.agg #[.int .u8 0, .int .u8 0, .int .u8 0, .int .u8 0, .int .u8 0, .int .u8 0, .int .u8 0, .int .u8 0, .int .u8 0, .int .u8 0, .int .u8 0, .int .u8 0, .int .u8 0, .int .u8 0, .int .u8 0, .int .u8 0])).run Tryd.prog w = .ok false w := fun w => same_lit16 X zero16 HX.out rfl false (by rw [decide_eq_false HZ.out]) w
      go_enter Tryd.func33, Tryd.ntmps33
      go_upto_region 1 with fail
      refine wp_region_lit ?_
      go_wp2_with (refine wpList_load_v rfl 37 (.tmp 1) rfl _ rfl ty16 A0.out hs ?_)
      refine (CU.out _).mono ?_
      rintro e w1 ⟨rfl, b1⟩
      have A1 := Lib.hid ((A0.out.below b1).alloc (.cells #[.int .u8 a, .int .u8 b, .int .u8 c, .int .u8 d] 38))
      have B1 := Lib.hid ((below_both B0.out b1).alloc (below_both B0.out b1).size (.cells #[.int .u8 a, .int .u8 b, .int .u8 c, .int .u8 d] 38))
      clear b1 CU A0 B0
      obtain ⟨c0, c1⟩ := HC.out _ A1.out
      go_upto_region 2 with fail
      refine wp_region_lit ?_
      go_wp2_with (refine wpList_load_v rfl 37 (.tmp 1) rfl _ rfl ty16 A1.out hs ?_)
      go_ret
      exact ⟨by rw [HF.out]; rfl, B1.out⟩
  have i2 : ((x : Int) == 254) = false := by simp; omega
  by_cases g4 : x = 252 ∨ x = 253
  · have HF : Hid (csort X = ⟨#[112, 114, 105, 118, 97, 116, 101]⟩) := by show _ = _; rw [HE.out, if_neg g1, if_neg (fun h => g2 h.1), if_pos g4]
    have i4 : ((xm : Int) == 252) = true := by have := l2.2 g4; simp; omega
    clear l1 l2 hx hy g1 g2 g4 k1' HE
    have hlp : ∀ w, (Op.equalIn 10000 37 (.agg (bcells X).toArray) (.agg #[.int .u8 0, .int .u8 0, .int .u8 0, .int .u8 0, .int .u8 0, .int .u8 0, .int .u8 0, .int .u8 0, .int .u8 0, .int .u8 0, .int .u8 0, .int .u8 0, .int .u8 0, .int .u8 0, .int .u8 0, .int .u8 1])).run Tryd.prog w = .ok false w := fun w => same_lit16 X loop16 HX.out rfl false (by rw [decide_eq_false HLP.out]) w
    have hz : ∀ w, (Op.equalIn 10000 37 (.agg (bcells X).toArray) (.agg #[.int .u8 0, .int .u8 0, .int .u8 0, .int .u8 0, .int .u8 0, .int .u8 0, .int .u8 0, .int .u8 0, .int .u8 0, .int .u8 0, .int .u8 0, .int .u8 0, .int .u8 0, .int .u8 0, .int .u8 0, .int .u8 0])).run Tryd.prog w = .ok false w := fun w => same_lit16 X zero16 HX.out rfl false (by rw [decide_eq_false HZ.out]) w
    go_enter Tryd.func33, Tryd.ntmps33
    go_upto_region 1 with fail
    refine wp_region_lit ?_
    go_wp2_with (refine wpList_load_v rfl 37 (.tmp 1) rfl _ rfl ty16 A0.out hs ?_)
    refine (CU.out _).mono ?_
    rintro e w1 ⟨rfl, b1⟩
    have A1 := Lib.hid ((A0.out.below b1).alloc (.cells #[.int .u8 a, .int .u8 b, .int .u8 c, .int .u8 d] 38))
    have B1 := Lib.hid ((below_both B0.out b1).alloc (below_both B0.out b1).size (.cells #[.int .u8 a, .int .u8 b, .int .u8 c, .int .u8 d] 38))
    clear b1 CU A0 B0
    obtain ⟨c0, c1⟩ := HC.out _ A1.out
    go_upto_region 2 with fail
    refine wp_region_lit ?_
    go_wp2_with (refine wpList_load_v rfl 37 (.tmp 1) rfl _ rfl ty16 A1.out hs ?_)
    go_ret
    exact ⟨by rw [HF.out]; rfl, B1.out⟩
  · have HF : Hid (csort X = ⟨#[104, 111, 115, 116]⟩) := by show _ = _; rw [HE.out, if_neg g1, if_neg (fun h => g2 h.1), if_neg g4]
    have i4 : ((xm : Int) == 252) = false := by have : ¬ xm = 252 := fun e => g4 (l2.1 e); simp; omega
    clear l1 l2 hx hy g1 g2 g4 k1' HE
    have hlp : ∀ w, (Op.equalIn 10000 37 (.agg (bcells X).toArray) (.agg #[.int .u8 0, .int .u8 0, .int .u8 0, .int .u8 0, .int .u8 0, .int .u8 0, .int .u8 0, .int .u8 0, .int .u8 0, .int .u8 0, .int .u8 0, .int .u8 0, .int .u8 0, .int .u8 0, .int .u8 0, .int .u8 1])).run Tryd.prog w = .ok false w := fun w => same_lit16 X loop16 HX.out rfl false (by rw [decide_eq_false HLP.out]) w
    have hz : ∀ w, (Op.equalIn 10000 37 (.agg (bcells X).toArray) (.agg #[.int .u8 0, .int .u8 0, .int .u8 0, .int .u8 0, .int .u8 0, .int .u8 0, .int .u8 0, .int .u8 0, .int .u8 0, .int .u8 0, .int .u8 0, .int .u8 0, .int .u8 0, .int .u8 0, .int .u8 0, .int .u8 0])).run Tryd.prog w = .ok false w := fun w => same_lit16 X zero16 HX.out rfl false (by rw [decide_eq_false HZ.out]) w
    go_enter Tryd.func33, Tryd.ntmps33
    go_upto_region 1 with fail
    refine wp_region_lit ?_
    go_wp2_with (refine wpList_load_v rfl 37 (.tmp 1) rfl _ rfl ty16 A0.out hs ?_)
    refine (CU.out _).mono ?_
    rintro e w1 ⟨rfl, b1⟩
    have A1 := Lib.hid ((A0.out.below b1).alloc (.cells #[.int .u8 a, .int .u8 b, .int .u8 c, .int .u8 d] 38))
    have B1 := Lib.hid ((below_both B0.out b1).alloc (below_both B0.out b1).size (.cells #[.int .u8 a, .int .u8 b, .int .u8 c, .int .u8 d] 38))
    clear b1 CU A0 B0
    obtain ⟨c0, c1⟩ := HC.out _ A1.out
    go_upto_region 2 with fail
    refine wp_region_lit ?_
    go_wp2_with (refine wpList_load_v rfl 37 (.tmp 1) rfl _ rfl ty16 A1.out hs ?_)
    go_ret
    exact ⟨by rw [HF.out]; rfl, B1.out⟩
end Go.Proofs.YtdeoeikpooonlaaDoor
