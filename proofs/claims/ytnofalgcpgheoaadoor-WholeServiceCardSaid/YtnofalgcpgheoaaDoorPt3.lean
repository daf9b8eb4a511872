/-
  The contract of point's Parse.
  The examples of layer 9 come out as they must: the contract of weighbridgelaw09.live.
-/
import Derived.Test.YtnofalgcpgheoaaDoorPt1
import Derived.Test.YtnofalgcpgheoaaDoorDec
namespace Go.Proofs.YtnofalgcpgheoaaDoor
open Go.RowKit
set_option linter.unusedVariables false

def PtParseIs (s : ByteArray) (w : World) (e : Ending) (w' : World) : Prop := e = .returned (.tuple #[.int .i64 ((ptParse s.data.toList).1 : Nat), .int .i64 ((ptParse s.data.toList).2 : Nat)]) ∧ Below w.heap.size w w'
theorem ptParse_is {s : ByteArray} {w w' : World} {a b : Nat} (h : ptParse s.data.toList = (a, b)) (hb : Below w.heap.size w w') : PtParseIs s w (.returned (.tuple #[.int .i64 (a : Nat), .int .i64 (b : Nat)])) w' := by
  refine ⟨?_, hb⟩
  rw [h]
theorem pt_same {s : ByteArray} {k : Nat} (h : ptLetters k = s.data.toList) : ((ptName (k : Int)).toList == s.toList) = true := by
  rw [Lib.toList_data, Lib.toList_data, ptName_list, h, beq_iff_eq]
theorem pt_other {s : ByteArray} {k : Nat} (h : ptLetters k ≠ s.data.toList) : ((ptName (k : Int)).toList == s.toList) = false := by
  rw [Lib.toList_data, Lib.toList_data, ptName_list, beq_eq_false_iff_ne]
  exact h
theorem numv_two {l : List UInt8} (h : numOkM 2 l = true) : numv l ≤ 99 := by
  unfold numOkM at h
  simp only [Bool.and_eq_true, decide_eq_true_eq] at h
  have h1 := numv_lt l h.2
  have h2 : 10 ^ l.length ≤ 10 ^ 2 := Nat.pow_le_pow_right (by decide) h.1.1.2
  omega
set_option maxRecDepth 10000 in
set_option maxHeartbeats 1600000 in
theorem ptparse_any (s : ByteArray) (w : World) (hT : Pow w) : Calls Tryd.prog 6 #[.string s] w (PtParseIs s w) := by
  have HT := Lib.hid hT
  clear hT
  go_enter Tryd.func6, Tryd.ntmps6
  go_wp2_with fail
  go_loopw [7] (fun i wr => ∃ k : Nat, k ≤ 64 ∧ i = .int .i64 k ∧ Hid (∀ j, j < k → ptLetters j ≠ s.data.toList) ∧ Hid (Below w.heap.size w wr)) (fun i _ => 64 - (intOf i).toNat)
  case atStart => exact ⟨0, by decide, rfl, fun j hj => absurd hj (by omega), Below.refl _ _⟩
  case round =>
    obtain ⟨k, hk, rfl, HJ, HB⟩ := hrel
    by_cases hlt : k < 64
    · have CN := Lib.hid (fun w hT => ptname_any (k : Int) w (by omega) (by omega) hT)
      by_cases he : ptLetters k = s.data.toList
      · have q := pt_same he
        have F := Lib.hid (fun w' hb => ptParse_is (w := w) (w' := w') (ptParse_found hlt he HJ.out) hb)
        clear he
        generalize ptName (k : Int) = x at *
        go_wp2_with fail
        refine (CN.out _ (HT.out.below HB.out)).mono ?_
        rintro e w1 ⟨rfl, hb⟩
        have HB1 := Lib.hid (below_both HB.out hb)
        clear hb
        go_wp2_with fail
        go_ret2
        exact F.out _ HB1.out
      · have q := pt_other he
        have HJ1 : Hid (∀ j, j < k + 1 → ptLetters j ≠ s.data.toList) := fun j hj => by
          rcases (by omega : j = k ∨ j < k) with rfl | h
          · exact he
          · exact HJ.out j h
        clear he
        generalize ptName (k : Int) = x at *
        have wk : wrap64 ((k : Int) + 1) = ((k + 1 : Nat) : Int) := wrap_inc (by omega)
        go_wp2_with fail
        refine (CN.out _ (HT.out.below HB.out)).mono ?_
        rintro e w1 ⟨rfl, hb⟩
        have HB1 := Lib.hid (below_both HB.out hb)
        clear hb
        go_wp2_with fail
        go_roundw
        case rel =>
          first
            | exact ⟨k + 1, by omega, rfl, HJ1.out, HB1.out⟩
            | exact ⟨_, ⟨k + 1, by omega, rfl, HJ1.out, HB1.out⟩, rfl⟩
            | fail
        case measure => simp [intOf]; omega
    · obtain rfl : k = 64 := by omega
      have E := Lib.hid (ptParse_none HJ.out)
      by_cases ho : numOkM 2 s.data.toList = true
      · have hn := numv_two ho
        obtain ⟨n, hnv⟩ : ∃ n, numv s.data.toList = n := ⟨_, rfl⟩
        have CD := Lib.hid (fun w => decimal_ok 2 s w (by decide) n ho hnv.symm)
        have E1 : Hid (ptParse s.data.toList = if n < 64 then (n, 0) else (0, 14)) := by
          show ptParse _ = _
          rw [E.out, if_pos ho, hnv]
        rw [hnv] at hn
        have w1 : wrap64 (n : Int) = (n : Int) := by unfold wrap64; omega
        have w2 : IntKind.i64.wrap (n : Int) = (n : Int) := IntWalk.i64_in _ (by omega)
        clear ho hnv E
        by_cases h6 : n < 64
        · have CV := Lib.hid (fun w => ptvalid_any (n : Int) w true (by simp; omega))
          have F := Lib.hid (fun w' hb => ptParse_is (w := w) (w' := w') (a := n) (b := 0) (s := s) (by rw [E1.out, if_pos h6]) hb)
          clear h6 hn
          go_wp2_with fail
          refine (CD.out _).mono ?_
          rintro e w1 ⟨rfl, hb⟩
          have HB1 := Lib.hid (below_both HB.out hb)
          clear hb
          go_wp2_with fail
          refine (CV.out _).mono ?_
          rintro e w2 ⟨rfl, rfl⟩
          go_wp2_with fail
          go_ret2
          exact F.out _ HB1.out
        · have CV := Lib.hid (fun w => ptvalid_any (n : Int) w false (by simp; omega))
          have F := Lib.hid (fun w' hb => ptParse_is (w := w) (w' := w') (a := 0) (b := 14) (s := s) (by rw [E1.out, if_neg h6]) hb)
          clear h6 hn
          go_wp2_with fail
          refine (CD.out _).mono ?_
          rintro e w1 ⟨rfl, hb⟩
          have HB1 := Lib.hid (below_both HB.out hb)
          clear hb
          go_wp2_with fail
          refine (CV.out _).mono ?_
          rintro e w2 ⟨rfl, rfl⟩
          go_wp2_with fail
          go_ret2
          exact F.out _ HB1.out
      · have ho2 : numOkM 2 s.data.toList = false := by simpa using ho
        have CD := Lib.hid (fun w => decimal_bad 2 s w (by decide) ho2)
        have F := Lib.hid (fun w' hb => ptParse_is (w := w) (w' := w') (a := 0) (b := 3) (s := s) (by rw [E.out, if_neg ho]) hb)
        clear ho ho2 E
        go_wp2_with fail
        refine (CD.out _).mono ?_
        rintro e w1 ⟨rfl, hb⟩
        have HB1 := Lib.hid (below_both HB.out hb)
        clear hb
        go_wp2_with fail
        go_ret2
        exact F.out _ HB1.out
end Go.Proofs.YtnofalgcpgheoaaDoor

namespace Go.Proofs.YtnofalgcpgheoaaDoor
open Go.RowKit
set_option linter.unusedVariables false

theorem l9_split (w : World) : Calls Tryd.prog 8 #[.int .u8 185] w fun e w' => e = .returned (.tuple #[.int .i64 46, .int .i64 1]) ∧ w = w' := ptsplit_any 185 w (by decide)
theorem l9_join (w : World) : Calls Tryd.prog 9 #[.int .i64 46, .int .i64 1] w fun e w' => e = .returned (.tuple #[.int .u8 185, .int .i64 0]) ∧ w = w' := ptjoin_any 46 1 w
theorem l9_join2 (w : World) : Calls Tryd.prog 9 #[.int .i64 64, .int .i64 9] w fun e w' => e = .returned (.tuple #[.int .u8 0, .int .i64 14]) ∧ w = w' := ptjoin_any 64 9 w
theorem l9_join3 (w : World) : Calls Tryd.prog 9 #[.int .i64 63, .int .i64 4] w fun e w' => e = .returned (.tuple #[.int .u8 0, .int .i64 1]) ∧ w = w' := ptjoin_any 63 4 w
theorem l9_af (w : World) : Calls Tryd.prog 23 #[.int .i64 4, .int .i64 3] w fun e w' => e = .returned (.tuple #[.int .i64 38, .int .i64 0]) ∧ w = w' := ptaf_yes 4 3 w (by decide) (by decide) (by decide) (by decide)
theorem l9_is (s : ByteArray) (a b : Nat) (w : World) (hT : Pow w) (h : ptParse s.data.toList = (a, b)) : Calls Tryd.prog 6 #[.string s] w fun e w' => e = .returned (.tuple #[.int .i64 (a : Nat), .int .i64 (b : Nat)]) ∧ Below w.heap.size w w' := by
  refine (ptparse_any s w hT).mono ?_
  rintro e w' ⟨he, hb⟩
  rw [h] at he
  exact ⟨he, hb⟩
theorem l9_p0 (w : World) (hT : Pow w) : Calls Tryd.prog 6 #[.string ⟨#[97, 102, 52, 51]⟩] w fun e w' => e = .returned (.tuple #[.int .i64 38, .int .i64 0]) ∧ Below w.heap.size w w' := l9_is ⟨#[97, 102, 52, 51]⟩ 38 0 w hT (by decide +kernel)
theorem l9_p1 (w : World) (hT : Pow w) : Calls Tryd.prog 6 #[.string ⟨#[51, 56]⟩] w fun e w' => e = .returned (.tuple #[.int .i64 38, .int .i64 0]) ∧ Below w.heap.size w w' := l9_is ⟨#[51, 56]⟩ 38 0 w hT (by decide +kernel)
theorem l9_p2 (w : World) (hT : Pow w) : Calls Tryd.prog 6 #[.string ⟨#[54, 52]⟩] w fun e w' => e = .returned (.tuple #[.int .i64 0, .int .i64 14]) ∧ Below w.heap.size w w' := l9_is ⟨#[54, 52]⟩ 0 14 w hT (by decide +kernel)
theorem l9_p3 (w : World) (hT : Pow w) : Calls Tryd.prog 6 #[.string ⟨#[65, 70, 52, 51]⟩] w fun e w' => e = .returned (.tuple #[.int .i64 0, .int .i64 3]) ∧ Below w.heap.size w w' := l9_is ⟨#[65, 70, 52, 51]⟩ 0 3 w hT (by decide +kernel)
theorem l9_n46 (w : World) (hT : Pow w) : Calls Tryd.prog 4 #[.int .i64 46] w fun e w' => e = .returned (.string ⟨#[101, 102]⟩) ∧ Below w.heap.size w w' := by
  have h : ptName ((46 : Nat) : Int) = ⟨#[101, 102]⟩ := by rw [ptName_nat]; decide +kernel
  have k := ptname_any ((46 : Nat) : Int) w (by decide) (by decide) hT
  rw [h] at k
  exact k
theorem l9_n8 (w : World) (hT : Pow w) : Calls Tryd.prog 4 #[.int .i64 8] w fun e w' => e = .returned (.string ⟨#[99, 115, 49]⟩) ∧ Below w.heap.size w w' := by
  have h : ptName ((8 : Nat) : Int) = ⟨#[99, 115, 49]⟩ := by rw [ptName_nat]; decide +kernel
  have k := ptname_any ((8 : Nat) : Int) w (by decide) (by decide) hT
  rw [h] at k
  exact k
theorem l9_n3 (w : World) (hT : Pow w) : Calls Tryd.prog 4 #[.int .i64 3] w fun e w' => e = .returned (.string ⟨#[51]⟩) ∧ Below w.heap.size w w' := by
  have h : ptName ((3 : Nat) : Int) = ⟨#[51]⟩ := by rw [ptName_nat]; decide +kernel
  have k := ptname_any ((3 : Nat) : Int) w (by decide) (by decide) hT
  rw [h] at k
  exact k
theorem l9_sort (w : World) : Calls Tryd.prog 11 #[.int .i64 44] w fun e w' => e = .returned (.string ⟨#[118, 111, 105, 99, 101]⟩) ∧ w = w' := ptsort_any 44 w (by decide) (by decide)
theorem l9_c38 (w : World) : Calls Tryd.prog 13 #[.int .i64 38] w fun e w' => e = .returned (.int .i64 3) ∧ w = w' := ptprec_any 38 w (by decide) (by decide)
theorem l9_c46 (w : World) : Calls Tryd.prog 13 #[.int .i64 46] w fun e w' => e = .returned (.int .i64 0) ∧ w = w' := ptprec_any 46 w (by decide) (by decide)

end Go.Proofs.YtnofalgcpgheoaaDoor
