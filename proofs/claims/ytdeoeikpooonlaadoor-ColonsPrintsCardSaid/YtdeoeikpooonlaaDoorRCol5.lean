/-
  The contract of the document's Sort of layer 6.
-/
import Derived.Test.YtdeoeikpooonlaaDoorRCol4
namespace Go.Proofs.YtdeoeikpooonlaaDoor
open Go.RowKit
set_option linter.unusedVariables false

/-- What Unmap tells of an address. -/
def unm (X : List Nat) : List Nat := if X.take 12 = mp then X.drop 12 else [0, 0, 0, 0]
theorem unm_four (X : List Nat) (hX : X.length = 16) : ∃ a b c d, unm X = [a, b, c, d] := by
  unfold unm
  split
  · have hl : (X.drop 12).length = 4 := by rw [List.length_drop, hX]
    match X.drop 12, hl with
    | [a, b, c, d], _ => exact ⟨a, b, c, d, rfl⟩
  · exact ⟨0, 0, 0, 0, rfl⟩
theorem runmap_lit (X : List Nat) (w : World) (hX : X.length = 16) (a b c d : Nat) (h : unm X = [a, b, c, d]) : Calls Tryd.prog 27 #[.agg (bcells X).toArray] w fun e w' =>
    e = .returned (.tuple #[.agg #[.int .u8 a, .int .u8 b, .int .u8 c, .int .u8 d], .bool (decide (X.take 12 = mp))]) ∧ Below w.heap.size w w' := by
  have k := runmap_any X w hX
  rw [show (if X.take 12 = mp then X.drop 12 else [0, 0, 0, 0]) = [a, b, c, d] from h] at k
  exact k
theorem unmap_lit (X : List Nat) (w : World) (hX : X.length = 16) (a b c d : Nat) (h : unm X = [a, b, c, d]) : Calls Tryd.prog 26 #[.agg (bcells X).toArray] w fun e w' =>
    e = .returned (.tuple #[.agg #[.int .u8 a, .int .u8 b, .int .u8 c, .int .u8 d], .bool (decide (X.take 12 = mp))]) ∧ Below w.heap.size w w' := by
  unfold unm at h
  by_cases h12 : X.take 12 = mp
  · rw [if_pos h12] at h
    have e2 : X = mp ++ [a, b, c, d] := by rw [← h12, ← h, List.take_append_drop]
    rw [decide_eq_true h12, e2]
    exact unmap_yes a b c d w
  · rw [if_neg h12] at h
    rw [decide_eq_false h12]
    injection h with h1 h
    injection h with h2 h
    injection h with h3 h
    injection h with h4 h
    subst h1 h2 h3 h4
    exact unmap_no X w hX h12
set_option maxRecDepth 10000 in
set_option maxHeartbeats 6400000 in
theorem rsort6 (X : List Nat) (w : World) (hX : X.length = 16) (bX : ∀ x ∈ X, x < 256) : Calls Tryd.prog 34 #[.agg (bcells X).toArray] w fun e w' => e = .returned (.string (csort X)) ∧ Below w.heap.size w w' := by
  have hs : (bcells X).length = 16 := by rw [bcells_length, hX]
  have HX := Lib.hid hX
  have A0 : Hid (ArrV 37 (w.alloc (.cells (bcells X).toArray 37)) w.heap.size (bcells X)) := ArrV.new _ w _
  have B0 : Hid (Below w.heap.size w (w.alloc (.cells (bcells X).toArray 37))) := (Below.refl _ _).alloc (Nat.le_refl _) _
  obtain ⟨a, b, c, d, hU⟩ := unm_four X hX
  have CU := Lib.hid (fun w => runmap_lit X w hX a b c d hU)
  clear hU
  by_cases hz0 : X = zero16
  · have HZ := Lib.hid hz0
    have HF : Hid (csort X = ⟨#[110, 111, 110, 101]⟩) := by show _ = _; rw [csort, if_pos hz0]
    clear hz0 hX bX
    have hz : ∀ w, (Op.equalIn 10000 37 (.agg (bcells X).toArray) (.agg #[.int .u8 0, .int .u8 0, .int .u8 0, .int .u8 0, .int .u8 0, .int .u8 0, .int .u8 0, .int .u8 0, .int .u8 0, .int .u8 0, .int .u8 0, .int .u8 0, .int .u8 0, .int .u8 0, .int .u8 0, .int .u8 0])).run Tryd.prog w = .ok true w := fun w => same_lit16 X zero16 HX.out rfl true (by rw [decide_eq_true HZ.out]) w
    go_enter Tryd.func34, Tryd.ntmps34
    go_upto_region 1 with fail
    refine wp_region_lit ?_
    go_wp2_with (refine wpList_load_v rfl 37 (.tmp 1) rfl _ rfl ty16 A0.out hs ?_)
    go_ret
    exact ⟨by rw [HF.out]; rfl, B0.out⟩
  by_cases hl0 : X = loop16
  · have HZ := Lib.hid hz0
    have HLP := Lib.hid hl0
    have HF : Hid (csort X = ⟨#[108, 111, 111, 112]⟩) := by show _ = _; rw [csort, if_neg hz0, if_pos hl0]
    clear hz0 hl0 hX bX
    have hlp : ∀ w, (Op.equalIn 10000 37 (.agg (bcells X).toArray) (.agg #[.int .u8 0, .int .u8 0, .int .u8 0, .int .u8 0, .int .u8 0, .int .u8 0, .int .u8 0, .int .u8 0, .int .u8 0, .int .u8 0, .int .u8 0, .int .u8 0, .int .u8 0, .int .u8 0, .int .u8 0, .int .u8 1])).run Tryd.prog w = .ok true w := fun w => same_lit16 X loop16 HX.out rfl true (by rw [decide_eq_true HLP.out]) w
    have hz : ∀ w, (Op.equalIn 10000 37 (.agg (bcells X).toArray) (.agg #[.int .u8 0, .int .u8 0, .int .u8 0, .int .u8 0, .int .u8 0, .int .u8 0, .int .u8 0, .int .u8 0, .int .u8 0, .int .u8 0, .int .u8 0, .int .u8 0, .int .u8 0, .int .u8 0, .int .u8 0, .int .u8 0])).run Tryd.prog w = .ok false w := fun w => same_lit16 X zero16 HX.out rfl false (by rw [decide_eq_false HZ.out]) w
    go_enter Tryd.func34, Tryd.ntmps34
    go_upto_region 1 with fail
    refine wp_region_lit ?_
    go_wp2_with (refine wpList_load_v rfl 37 (.tmp 1) rfl _ rfl ty16 A0.out hs ?_)
    go_ret
    exact ⟨by rw [HF.out]; rfl, B0.out⟩
  have HZ := Lib.hid hz0
  have HLP := Lib.hid hl0
  by_cases h4 : X.take 12 = mp
  · have HF : Hid (csort X = ⟨#[102, 111, 117, 114]⟩) := by show _ = _; rw [csort, if_neg hz0, if_neg hl0, if_pos h4]
    rw [decide_eq_true h4] at CU
    clear hz0 hl0 hX bX h4
    have hlp : ∀ w, (Op.equalIn 10000 37 (.agg (bcells X).toArray) (.agg #[.int .u8 0, .int .u8 0, .int .u8 0, .int .u8 0, .int .u8 0, .int .u8 0, .int .u8 0, .int .u8 0, .int .u8 0, .int .u8 0, .int .u8 0, .int .u8 0, .int .u8 0, .int .u8 0, .int .u8 0, .int .u8 1])).run Tryd.prog w = .ok false w := fun w => same_lit16 X loop16 HX.out rfl false (by rw [decide_eq_false HLP.out]) w
    have hz : ∀ w, (Op.equalIn 10000 37 (.agg (bcells X).toArray) (.agg #[.int .u8 0, .int .u8 0, .int .u8 0, .int .u8 0, .int .u8 0, .int .u8 0, .int .u8 0, .int .u8 0, .int .u8 0, .int .u8 0, .int .u8 0, .int .u8 0, .int .u8 0, .int .u8 0, .int .u8 0, .int .u8 0])).run Tryd.prog w = .ok false w := fun w => same_lit16 X zero16 HX.out rfl false (by rw [decide_eq_false HZ.out]) w
    go_enter Tryd.func34, Tryd.ntmps34
    go_upto_region 1 with fail
    refine wp_region_lit ?_
    go_wp2_with (refine wpList_load_v rfl 37 (.tmp 1) rfl _ rfl ty16 A0.out hs ?_)
    refine (CU.out _).mono ?_
    rintro e w1 ⟨rfl, b1⟩
    have A1 := Lib.hid ((A0.out.below b1).alloc (.cells #[.int .u8 a, .int .u8 b, .int .u8 c, .int .u8 d] 38))
    have B1 := Lib.hid ((below_both B0.out b1).alloc (below_both B0.out b1).size (.cells #[.int .u8 a, .int .u8 b, .int .u8 c, .int .u8 d] 38))
    clear b1 CU A0 B0
    go_wp2_with fail
    go_ret
    exact ⟨by rw [HF.out]; rfl, B1.out⟩
  have HE : Hid (csort X = if X.getD 0 0 = 255 then ⟨#[103, 114, 111, 117, 112]⟩
  else if X.getD 0 0 = 254 ∧ 128 ≤ X.getD 1 0 ∧ X.getD 1 0 < 192 then ⟨#[108, 105, 110, 107]⟩
  else if X.getD 0 0 = 252 ∨ X.getD 0 0 = 253 then ⟨#[112, 114, 105, 118, 97, 116, 101]⟩
  else ⟨#[104, 111, 115, 116]⟩) := by show _ = _; rw [csort, if_neg hz0, if_neg hl0, if_neg h4]
  rw [decide_eq_false h4] at CU
  have HC : Hid (∀ (W : World), ArrV 37 W w.heap.size (bcells X) → W.cell? ⟨w.heap.size, 0, none⟩ = some (.int .u8 (X.getD 0 0 : Nat)) ∧ W.cell? ⟨w.heap.size, 1, none⟩ = some (.int .u8 (X.getD 1 0 : Nat))) := by
    intro W h
    rw [h.get, h.get]
    simp [bcells, hX]
  clear hz0 hl0 h4 hX bX
  generalize X.getD 0 0 = x at *
  generalize X.getD 1 0 = y at *
  by_cases g1 : x = 255
  · have HF : Hid (csort X = ⟨#[103, 114, 111, 117, 112]⟩) := by show _ = _; rw [HE.out, if_pos g1]
    have i1 : ((x : Int) == 255) = true := by simp; omega
    clear g1 HE
    have hlp : ∀ w, (Op.equalIn 10000 37 (.agg (bcells X).toArray) (.agg #[.int .u8 0, .int .u8 0, .int .u8 0, .int .u8 0, .int .u8 0, .int .u8 0, .int .u8 0, .int .u8 0, .int .u8 0, .int .u8 0, .int .u8 0, .int .u8 0, .int .u8 0, .int .u8 0, .int .u8 0, .int .u8 1])).run Tryd.prog w = .ok false w := fun w => same_lit16 X loop16 HX.out rfl false (by rw [decide_eq_false HLP.out]) w
    have hz : ∀ w, (Op.equalIn 10000 37 (.agg (bcells X).toArray) (.agg #[.int .u8 0, .int .u8 0, .int .u8 0, .int .u8 0, .int .u8 0, .int .u8 0, .int .u8 0, .int .u8 0, .int .u8 0, .int .u8 0, .int .u8 0, .int .u8 0, .int .u8 0, .int .u8 0, .int .u8 0, .int .u8 0])).run Tryd.prog w = .ok false w := fun w => same_lit16 X zero16 HX.out rfl false (by rw [decide_eq_false HZ.out]) w
    go_enter Tryd.func34, Tryd.ntmps34
    go_upto_region 1 with fail
    refine wp_region_lit ?_
    go_wp2_with (refine wpList_load_v rfl 37 (.tmp 1) rfl _ rfl ty16 A0.out hs ?_)
    refine (CU.out _).mono ?_
    rintro e w1 ⟨rfl, b1⟩
    have A1 := Lib.hid ((A0.out.below b1).alloc (.cells #[.int .u8 a, .int .u8 b, .int .u8 c, .int .u8 d] 38))
    have B1 := Lib.hid ((below_both B0.out b1).alloc (below_both B0.out b1).size (.cells #[.int .u8 a, .int .u8 b, .int .u8 c, .int .u8 d] 38))
    clear b1 CU A0 B0
    obtain ⟨c0, c1⟩ := HC.out _ A1.out
    clear HC
    go_wp2_with fail
    go_ret
    exact ⟨by rw [HF.out]; rfl, B1.out⟩
  have i1 : ((x : Int) == 255) = false := by simp; omega
  by_cases g2 : x = 254
  · have i2 : ((x : Int) == 254) = true := by simp; omega
    have i4 : ((x : Int) == 252) = false := by simp; omega
    have i5 : ((x : Int) == 253) = false := by simp; omega
    by_cases g3 : 128 ≤ y
    · by_cases g4 : y < 192
      · have HF : Hid (csort X = ⟨#[108, 105, 110, 107]⟩) := by show _ = _; rw [HE.out, if_neg g1, if_pos ⟨g2, g3, g4⟩]
        have i6 : (128 : Int) ≤ (y : Int) := by omega
        have i7 : (y : Int) < 192 := by omega
        clear g1 g2 g3 g4 HE
        have hlp : ∀ w, (Op.equalIn 10000 37 (.agg (bcells X).toArray) (.agg #[.int .u8 0, .int .u8 0, .int .u8 0, .int .u8 0, .int .u8 0, .int .u8 0, .int .u8 0, .int .u8 0, .int .u8 0, .int .u8 0, .int .u8 0, .int .u8 0, .int .u8 0, .int .u8 0, .int .u8 0, .int .u8 1])).run Tryd.prog w = .ok false w := fun w => same_lit16 X loop16 HX.out rfl false (by rw [decide_eq_false HLP.out]) w
        have hz : ∀ w, (Op.equalIn 10000 37 (.agg (bcells X).toArray) (.agg #[.int .u8 0, .int .u8 0, .int .u8 0, .int .u8 0, .int .u8 0, .int .u8 0, .int .u8 0, .int .u8 0, .int .u8 0, .int .u8 0, .int .u8 0, .int .u8 0, .int .u8 0, .int .u8 0, .int .u8 0, .int .u8 0])).run Tryd.prog w = .ok false w := fun w => same_lit16 X zero16 HX.out rfl false (by rw [decide_eq_false HZ.out]) w
        go_enter Tryd.func34, Tryd.ntmps34
        go_upto_region 1 with fail
        refine wp_region_lit ?_
        go_wp2_with (refine wpList_load_v rfl 37 (.tmp 1) rfl _ rfl ty16 A0.out hs ?_)
        refine (CU.out _).mono ?_
        rintro e w1 ⟨rfl, b1⟩
        have A1 := Lib.hid ((A0.out.below b1).alloc (.cells #[.int .u8 a, .int .u8 b, .int .u8 c, .int .u8 d] 38))
        have B1 := Lib.hid ((below_both B0.out b1).alloc (below_both B0.out b1).size (.cells #[.int .u8 a, .int .u8 b, .int .u8 c, .int .u8 d] 38))
        clear b1 CU A0 B0
        obtain ⟨c0, c1⟩ := HC.out _ A1.out
        clear HC
        go_wp2_with fail
        go_ret
        exact ⟨by rw [HF.out]; rfl, B1.out⟩
      · have HF : Hid (csort X = ⟨#[104, 111, 115, 116]⟩) := by show _ = _; rw [HE.out, if_neg g1, if_neg (fun h => g4 h.2.2), if_neg (by omega)]
        have i6 : (128 : Int) ≤ (y : Int) := by omega
        have i7 : (192 : Int) ≤ (y : Int) := by omega
        clear g1 g2 g3 g4 HE
        have hlp : ∀ w, (Op.equalIn 10000 37 (.agg (bcells X).toArray) (.agg #[.int .u8 0, .int .u8 0, .int .u8 0, .int .u8 0, .int .u8 0, .int .u8 0, .int .u8 0, .int .u8 0, .int .u8 0, .int .u8 0, .int .u8 0, .int .u8 0, .int .u8 0, .int .u8 0, .int .u8 0, .int .u8 1])).run Tryd.prog w = .ok false w := fun w => same_lit16 X loop16 HX.out rfl false (by rw [decide_eq_false HLP.out]) w
        have hz : ∀ w, (Op.equalIn 10000 37 (.agg (bcells X).toArray) (.agg #[.int .u8 0, .int .u8 0, .int .u8 0, .int .u8 0, .int .u8 0, .int .u8 0, .int .u8 0, .int .u8 0, .int .u8 0, .int .u8 0, .int .u8 0, .int .u8 0, .int .u8 0, .int .u8 0, .int .u8 0, .int .u8 0])).run Tryd.prog w = .ok false w := fun w => same_lit16 X zero16 HX.out rfl false (by rw [decide_eq_false HZ.out]) w
        go_enter Tryd.func34, Tryd.ntmps34
        go_upto_region 1 with fail
        refine wp_region_lit ?_
        go_wp2_with (refine wpList_load_v rfl 37 (.tmp 1) rfl _ rfl ty16 A0.out hs ?_)
        refine (CU.out _).mono ?_
        rintro e w1 ⟨rfl, b1⟩
        have A1 := Lib.hid ((A0.out.below b1).alloc (.cells #[.int .u8 a, .int .u8 b, .int .u8 c, .int .u8 d] 38))
        have B1 := Lib.hid ((below_both B0.out b1).alloc (below_both B0.out b1).size (.cells #[.int .u8 a, .int .u8 b, .int .u8 c, .int .u8 d] 38))
        clear b1 CU A0 B0
        obtain ⟨c0, c1⟩ := HC.out _ A1.out
        clear HC
        go_wp2_with fail
        go_ret
        exact ⟨by rw [HF.out]; rfl, B1.out⟩
    · have HF : Hid (csort X = ⟨#[104, 111, 115, 116]⟩) := by show _ = _; rw [HE.out, if_neg g1, if_neg (fun h => g3 h.2.1), if_neg (by omega)]
      have i6 : (y : Int) < 128 := by omega
      clear g1 g2 g3 HE
      have hlp : ∀ w, (Op.equalIn 10000 37 (.agg (bcells X).toArray) (.agg #[.int .u8 0, .int .u8 0, .int .u8 0, .int .u8 0, .int .u8 0, .int .u8 0, .int .u8 0, .int .u8 0, .int .u8 0, .int .u8 0, .int .u8 0, .int .u8 0, .int .u8 0, .int .u8 0, .int .u8 0, .int .u8 1])).run Tryd.prog w = .ok false w := fun w => same_lit16 X loop16 HX.out rfl false (by rw [decide_eq_false HLP.out]) w
      have hz : ∀ w, (Op.equalIn 10000 37 (.agg (bcells X).toArray) (.agg #[.int .u8 0, .int .u8 0, .int .u8 0, .int .u8 0, .int .u8 0, .int .u8 0, .int .u8 0, .int .u8 0, .int .u8 0, .int .u8 0, .int .u8 0, .int .u8 0, .int .u8 0, .int .u8 0, .int .u8 0, .int .u8 0])).run Tryd.prog w = .ok false w := fun w => same_lit16 X zero16 HX.out rfl false (by rw [decide_eq_false HZ.out]) w
      go_enter Tryd.func34, Tryd.ntmps34
      go_upto_region 1 with fail
      refine wp_region_lit ?_
      go_wp2_with (refine wpList_load_v rfl 37 (.tmp 1) rfl _ rfl ty16 A0.out hs ?_)
      refine (CU.out _).mono ?_
      rintro e w1 ⟨rfl, b1⟩
      have A1 := Lib.hid ((A0.out.below b1).alloc (.cells #[.int .u8 a, .int .u8 b, .int .u8 c, .int .u8 d] 38))
      have B1 := Lib.hid ((below_both B0.out b1).alloc (below_both B0.out b1).size (.cells #[.int .u8 a, .int .u8 b, .int .u8 c, .int .u8 d] 38))
      clear b1 CU A0 B0
      obtain ⟨c0, c1⟩ := HC.out _ A1.out
      clear HC
      go_wp2_with fail
      go_ret
      exact ⟨by rw [HF.out]; rfl, B1.out⟩
  have i2 : ((x : Int) == 254) = false := by simp; omega
  by_cases g3 : x = 252
  · have HF : Hid (csort X = ⟨#[112, 114, 105, 118, 97, 116, 101]⟩) := by show _ = _; rw [HE.out, if_neg g1, if_neg (fun h => g2 h.1), if_pos (.inl g3)]
    have i4 : ((x : Int) == 252) = true := by simp; omega
    clear g1 g2 g3 HE
    have hlp : ∀ w, (Op.equalIn 10000 37 (.agg (bcells X).toArray) (.agg #[.int .u8 0, .int .u8 0, .int .u8 0, .int .u8 0, .int .u8 0, .int .u8 0, .int .u8 0, .int .u8 0, .int .u8 0, .int .u8 0, .int .u8 0, .int .u8 0, .int .u8 0, .int .u8 0, .int .u8 0, .int .u8 1])).run Tryd.prog w = .ok false w := fun w => same_lit16 X loop16 HX.out rfl false (by rw [decide_eq_false HLP.out]) w
    have hz : ∀ w, (Op.equalIn 10000 37 (.agg (bcells X).toArray) (.agg #[.int .u8 0, .int .u8 0, .int .u8 0, .int .u8 0, .int .u8 0, .int .u8 0, .int .u8 0, .int .u8 0, .int .u8 0, .int .u8 0, .int .u8 0, .int .u8 0, .int .u8 0, .int .u8 0, .int .u8 0, .int .u8 0])).run Tryd.prog w = .ok false w := fun w => same_lit16 X zero16 HX.out rfl false (by rw [decide_eq_false HZ.out]) w
    go_enter Tryd.func34, Tryd.ntmps34
    go_upto_region 1 with fail
    refine wp_region_lit ?_
    go_wp2_with (refine wpList_load_v rfl 37 (.tmp 1) rfl _ rfl ty16 A0.out hs ?_)
    refine (CU.out _).mono ?_
    rintro e w1 ⟨rfl, b1⟩
    have A1 := Lib.hid ((A0.out.below b1).alloc (.cells #[.int .u8 a, .int .u8 b, .int .u8 c, .int .u8 d] 38))
    have B1 := Lib.hid ((below_both B0.out b1).alloc (below_both B0.out b1).size (.cells #[.int .u8 a, .int .u8 b, .int .u8 c, .int .u8 d] 38))
    clear b1 CU A0 B0
    obtain ⟨c0, c1⟩ := HC.out _ A1.out
    clear HC
    go_wp2_with fail
    go_ret
    exact ⟨by rw [HF.out]; rfl, B1.out⟩
  have i4 : ((x : Int) == 252) = false := by simp; omega
  by_cases g4 : x = 253
  · have HF : Hid (csort X = ⟨#[112, 114, 105, 118, 97, 116, 101]⟩) := by show _ = _; rw [HE.out, if_neg g1, if_neg (fun h => g2 h.1), if_pos (.inr g4)]
    have i5 : ((x : Int) == 253) = true := by simp; omega
    clear g1 g2 g3 g4 HE
    have hlp : ∀ w, (Op.equalIn 10000 37 (.agg (bcells X).toArray) (.agg #[.int .u8 0, .int .u8 0, .int .u8 0, .int .u8 0, .int .u8 0, .int .u8 0, .int .u8 0, .int .u8 0, .int .u8 0, .int .u8 0, .int .u8 0, .int .u8 0, .int .u8 0, .int .u8 0, .int .u8 0, .int .u8 1])).run Tryd.prog w = .ok false w := fun w => same_lit16 X loop16 HX.out rfl false (by rw [decide_eq_false HLP.out]) w
    have hz : ∀ w, (Op.equalIn 10000 37 (.agg (bcells X).toArray) (.agg #[.int .u8 0, .int .u8 0, .int .u8 0, .int .u8 0, .int .u8 0, .int .u8 0, .int .u8 0, .int .u8 0, .int .u8 0, .int .u8 0, .int .u8 0, .int .u8 0, .int .u8 0, .int .u8 0, .int .u8 0, .int .u8 0])).run Tryd.prog w = .ok false w := fun w => same_lit16 X zero16 HX.out rfl false (by rw [decide_eq_false HZ.out]) w
    go_enter Tryd.func34, Tryd.ntmps34
    go_upto_region 1 with fail
    refine wp_region_lit ?_
    go_wp2_with (refine wpList_load_v rfl 37 (.tmp 1) rfl _ rfl ty16 A0.out hs ?_)
    refine (CU.out _).mono ?_
    rintro e w1 ⟨rfl, b1⟩
    have A1 := Lib.hid ((A0.out.below b1).alloc (.cells #[.int .u8 a, .int .u8 b, .int .u8 c, .int .u8 d] 38))
    have B1 := Lib.hid ((below_both B0.out b1).alloc (below_both B0.out b1).size (.cells #[.int .u8 a, .int .u8 b, .int .u8 c, .int .u8 d] 38))
    clear b1 CU A0 B0
    obtain ⟨c0, c1⟩ := HC.out _ A1.out
    clear HC
    go_wp2_with fail
    go_ret
    exact ⟨by rw [HF.out]; rfl, B1.out⟩
  have i5 : ((x : Int) == 253) = false := by simp; omega
  have HF : Hid (csort X = ⟨#[104, 111, 115, 116]⟩) := by show _ = _; rw [HE.out, if_neg g1, if_neg (fun h => g2 h.1), if_neg (by omega)]
  clear g1 g2 g3 g4 HE
  have hlp : ∀ w, (Op.equalIn 10000 37 (.agg (bcells X).toArray) (.agg #[.int .u8 0, .int .u8 0, .int .u8 0, .int .u8 0, .int .u8 0, .int .u8 0, .int .u8 0, .int .u8 0, .int .u8 0, .int .u8 0, .int .u8 0, .int .u8 0, .int .u8 0, .int .u8 0, .int .u8 0, .int .u8 1])).run Tryd.prog w = .ok false w := fun w => same_lit16 X loop16 HX.out rfl false (by rw [decide_eq_false HLP.out]) w
  have hz : ∀ w, (Op.equalIn 10000 37 (.agg (bcells X).toArray) (.agg #[.int .u8 0, .int .u8 0, .int .u8 0, .int .u8 0, .int .u8 0, .int .u8 0, .int .u8 0, .int .u8 0, .int .u8 0, .int .u8 0, .int .u8 0, .int .u8 0, .int .u8 0, .int .u8 0, .int .u8 0, .int .u8 0])).run Tryd.prog w = .ok false w := fun w => same_lit16 X zero16 HX.out rfl false (by rw [decide_eq_false HZ.out]) w
  go_enter Tryd.func34, Tryd.ntmps34
  go_upto_region 1 with fail
  refine wp_region_lit ?_
  go_wp2_with (refine wpList_load_v rfl 37 (.tmp 1) rfl _ rfl ty16 A0.out hs ?_)
  refine (CU.out _).mono ?_
  rintro e w1 ⟨rfl, b1⟩
  have A1 := Lib.hid ((A0.out.below b1).alloc (.cells #[.int .u8 a, .int .u8 b, .int .u8 c, .int .u8 d] 38))
  have B1 := Lib.hid ((below_both B0.out b1).alloc (below_both B0.out b1).size (.cells #[.int .u8 a, .int .u8 b, .int .u8 c, .int .u8 d] 38))
  clear b1 CU A0 B0
  obtain ⟨c0, c1⟩ := HC.out _ A1.out
  clear HC
  go_wp2_with fail
  go_ret
  exact ⟨by rw [HF.out]; rfl, B1.out⟩
end Go.Proofs.YtdeoeikpooonlaaDoor
