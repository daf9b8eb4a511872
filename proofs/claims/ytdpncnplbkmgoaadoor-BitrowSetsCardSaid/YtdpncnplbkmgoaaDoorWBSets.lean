/-
  The walk of the statement BitrowSets.
-/
import Derived.Test.YtdpncnplbkmgoaaDoorLive18
namespace Go.Proofs.YtdpncnplbkmgoaaDoor
open Go.RowKit
set_option linter.unusedVariables false

theorem newRow_word (m : Nat) : ∀ x ∈ List.replicate m 0, x < 18446744073709551616 := fun x hx => by rw [List.eq_of_mem_replicate hx]; decide
set_option maxRecDepth 10000 in
set_option maxHeartbeats 3200000 in
theorem walk_BitrowSets (n : Int) (A : Option Addr) (len cap : Nat) (xs : List Nat) (i : Int) (w : World) (hT : Bru w) (lo0 : -9223372036854775808 ≤ n) (hi0 : n ≤ 9223372036854775807) (hA : RowU w A len xs) (hl1 : len ≤ cap) (hc1 : cap ≤ 17592186043904) (lo2 : -9223372036854775808 ≤ i) (hi2 : i ≤ 9223372036854775807) :
    Calls Tryd.prog 3 #[.int .i64 n, .slice A len cap, .int .i64 i] w fun e w' => e = .returned (.bool true) ∧ Below w.heap.size w w' := by
  have HT0 := Lib.hid hT
  by_cases hbig : 200 < len
  · have hb : (200 : Int) < (len : Int) := by omega
    clear hA hl1 hc1 lo0 hi0 lo2 hi2 hT
    go_enter Tryd.func3, Tryd.ntmps3
    go_wp2_with (go_at_call 7; refine (live18 _ HT0.out).mono ?_; rintro e w' ⟨rfl, hb⟩)
    go_ret
    exact ⟨rfl, hb⟩
  have hb : (len : Int) ≤ 200 := by omega
  have hlen := hA.len
  have hln : len ≤ 200 := by omega
  have HLN := Lib.hid hln
  have C1 := Lib.hid (fun w => brnew_any n w)
  have C2 := Lib.hid (fun w => rnew_any n w lo0 hi0)
  have HXb := Lib.hid (newRow_word (newN n))
  have HXl : Hid ((List.replicate (newN n) 0).length ≤ 1048576) := by rw [List.length_replicate]; exact Nat.le_trans (newN_le n) (by decide)
  obtain ⟨X, hX⟩ : ∃ X, X = List.replicate (newN n) 0 := ⟨_, rfl⟩
  rw [← hX] at C1 C2 HXb HXl
  have C3 := Lib.hid (fun w => brall_any n w lo0 hi0)
  have C4 := Lib.hid (fun w => rall_any n w lo0 hi0)
  have HYb := Lib.hid (allRow_word n)
  have HYl : Hid ((allRow n).length ≤ 1048576) := by rw [allRow_length]; exact Nat.le_trans (newN_le n) (by decide)
  obtain ⟨Y, hY⟩ : ∃ Y, Y = allRow n := ⟨_, rfl⟩
  rw [← hY] at C3 C4 HYb HYl
  have C5 := Lib.hid (fun w hA => brSet_any A len cap xs i w hi2 (by omega) hA)
  have C6 := Lib.hid (fun w hA => rSet_any A len cap xs i w hi2 (by omega) hA)
  have HZb := Lib.hid (setB_word hA.2.1 i)
  have HZl : Hid ((setB xs i).length ≤ 1048576) := by rw [setB_length, hlen]; exact (by omega : len ≤ 1048576)
  obtain ⟨Z, hZ⟩ : ∃ Z, Z = setB xs i := ⟨_, rfl⟩
  rw [← hZ] at C5 C6 HZb HZl
  have C7 := Lib.hid (fun w hA => brhas_any A len cap xs i w hi2 hA)
  have C8 := Lib.hid (fun w hA => rhas_any A len cap xs i w hi2 hA)
  obtain ⟨t, ht⟩ : ∃ t, t = hasB xs i := ⟨_, rfl⟩
  rw [← ht] at C7 C8
  have C9 := Lib.hid (fun w hT hA => brfirst_any A len cap xs w (by omega) hT hA)
  have C10 := Lib.hid (fun w hA => rfirst_any A len cap xs w (by omega) hA)
  obtain ⟨f, hf⟩ : ∃ f, f = firstB xs := ⟨_, rfl⟩
  rw [← hf] at C9 C10
  have C11 := Lib.hid (fun w hT hA => brlist_any A len cap xs w (by omega) hT hA)
  have C12 := Lib.hid (fun w hA => rlist_any A len cap xs w (by omega) hA)
  have C13 := Lib.hid (fun w hA => brcount_any A len cap xs w (by omega) hA)
  have HLb := Lib.hid (bitsOf_bound xs (by omega))
  have HLl : Hid ((bitsOf xs).length ≤ 1048576) := by
    have h1 := upTo_length xs (64 * xs.length)
    rw [hlen] at h1
    exact Nat.le_trans (by unfold bitsOf; rw [hlen]; exact h1) (by omega : 64 * len ≤ 1048576)
  obtain ⟨L, hL⟩ : ∃ L, L = bitsOf xs := ⟨_, rfl⟩
  rw [← hL] at C11 C12 C13 HLb HLl
  have RA := Lib.hid hA
  have B0 : Hid (Below w.heap.size w w) := Below.refl _ _
  clear hA hl1 hc1 lo0 hi0 lo2 hi2 hT hX hY hZ ht hf hL hlen hbig hln
  go_enter Tryd.func3, Tryd.ntmps3
  go_wp2_with fail
  refine (C5.out _ RA.out).mono ?_
  rintro e w1 ⟨v, rfl, ho, hb1⟩
  obtain ⟨A1, c1, rfl, _, _, r1⟩ := ho.out HZb.out
  have RA := Lib.hid (RA.out.below hb1)
  have B1 := Lib.hid (below_both B0.out hb1)
  have HT1 := Lib.hid (HT0.out.below hb1)
  have RZ := Lib.hid r1
  clear ho r1 hb1
  go_wp2_with fail
  refine (live18 _ HT1.out).mono ?_
  rintro e w2 ⟨rfl, hb2⟩
  have RA := Lib.hid (RA.out.below hb2)
  have RZ := Lib.hid (RZ.out.below hb2)
  have B2 := Lib.hid (below_both B1.out hb2)
  have HT2 := Lib.hid (HT1.out.below hb2)
  clear hb2
  go_wp2_with fail
  refine (C1.out _ ).mono ?_
  rintro e w3 ⟨v, rfl, ho, hb3⟩
  obtain ⟨A3, c3, rfl, _, _, r3⟩ := ho.out HXb.out
  have RA := Lib.hid (RA.out.below hb3)
  have RZ := Lib.hid (RZ.out.below hb3)
  have B3 := Lib.hid (below_both B2.out hb3)
  have HT3 := Lib.hid (HT2.out.below hb3)
  have R1 := Lib.hid r3
  clear ho r3 hb3
  go_wp2_with fail
  refine (C2.out _ ).mono ?_
  rintro e w4 ⟨v, rfl, ho, hb4⟩
  obtain ⟨A4, c4, rfl, _, _, r4⟩ := ho.out HXb.out
  have RA := Lib.hid (RA.out.below hb4)
  have RZ := Lib.hid (RZ.out.below hb4)
  have R1 := Lib.hid (R1.out.below hb4)
  have B4 := Lib.hid (below_both B3.out hb4)
  have HT4 := Lib.hid (HT3.out.below hb4)
  have R2 := Lib.hid r4
  clear ho r4 hb4
  go_wp2_with fail
  refine (rowsame_yes _ _ _ _ _ X _ HXl.out R1.out R2.out).mono ?_
  rintro e w5 ⟨rfl, hb5⟩
  have RA := Lib.hid (RA.out.below hb5)
  have RZ := Lib.hid (RZ.out.below hb5)
  have R1 := Lib.hid (R1.out.below hb5)
  have R2 := Lib.hid (R2.out.below hb5)
  have B5 := Lib.hid (below_both B4.out hb5)
  have HT5 := Lib.hid (HT4.out.below hb5)
  clear hb5
  clear R1 R2
  go_wp2_with fail
  refine (C3.out _ ).mono ?_
  rintro e w6 ⟨v, rfl, ho, hb6⟩
  obtain ⟨A6, c6, rfl, _, _, r6⟩ := ho.out HYb.out
  have RA := Lib.hid (RA.out.below hb6)
  have RZ := Lib.hid (RZ.out.below hb6)
  have B6 := Lib.hid (below_both B5.out hb6)
  have HT6 := Lib.hid (HT5.out.below hb6)
  have R1 := Lib.hid r6
  clear ho r6 hb6
  go_wp2_with fail
  refine (C4.out _ ).mono ?_
  rintro e w7 ⟨v, rfl, ho, hb7⟩
  obtain ⟨A7, c7, rfl, _, _, r7⟩ := ho.out HYb.out
  have RA := Lib.hid (RA.out.below hb7)
  have RZ := Lib.hid (RZ.out.below hb7)
  have R1 := Lib.hid (R1.out.below hb7)
  have B7 := Lib.hid (below_both B6.out hb7)
  have HT7 := Lib.hid (HT6.out.below hb7)
  have R2 := Lib.hid r7
  clear ho r7 hb7
  go_wp2_with fail
  refine (rowsame_yes _ _ _ _ _ Y _ HYl.out R1.out R2.out).mono ?_
  rintro e w8 ⟨rfl, hb8⟩
  have RA := Lib.hid (RA.out.below hb8)
  have RZ := Lib.hid (RZ.out.below hb8)
  have R1 := Lib.hid (R1.out.below hb8)
  have R2 := Lib.hid (R2.out.below hb8)
  have B8 := Lib.hid (below_both B7.out hb8)
  have HT8 := Lib.hid (HT7.out.below hb8)
  clear hb8
  clear R1 R2
  go_wp2_with fail
  refine (C6.out _ RA.out).mono ?_
  rintro e w9 ⟨v, rfl, ho, hb9⟩
  obtain ⟨A9, c9, rfl, _, _, r9⟩ := ho.out HZb.out
  have RA := Lib.hid (RA.out.below hb9)
  have RZ := Lib.hid (RZ.out.below hb9)
  have B9 := Lib.hid (below_both B8.out hb9)
  have HT9 := Lib.hid (HT8.out.below hb9)
  have R2 := Lib.hid r9
  clear ho r9 hb9
  go_wp2_with fail
  refine (rowsame_yes _ _ _ _ _ Z _ HZl.out RZ.out R2.out).mono ?_
  rintro e w10 ⟨rfl, hb10⟩
  have RA := Lib.hid (RA.out.below hb10)
  have RZ := Lib.hid (RZ.out.below hb10)
  have R2 := Lib.hid (R2.out.below hb10)
  have B10 := Lib.hid (below_both B9.out hb10)
  have HT10 := Lib.hid (HT9.out.below hb10)
  clear hb10
  clear RZ R2
  go_wp2_with fail
  refine (C7.out _ RA.out).mono ?_
  rintro e w' ⟨rfl, rfl⟩
  go_wp2_with fail
  refine (C8.out _ RA.out).mono ?_
  rintro e w' ⟨rfl, rfl⟩
  go_wp2_with fail
  refine (C9.out _ HT10.out RA.out).mono ?_
  rintro e w11 ⟨rfl, hb11⟩
  have RA := Lib.hid (RA.out.below hb11)
  have B11 := Lib.hid (below_both B10.out hb11)
  have HT11 := Lib.hid (HT10.out.below hb11)
  clear hb11
  go_wp2_with fail
  refine (C10.out _ RA.out).mono ?_
  rintro e w12 ⟨rfl, hb12⟩
  have RA := Lib.hid (RA.out.below hb12)
  have B12 := Lib.hid (below_both B11.out hb12)
  have HT12 := Lib.hid (HT11.out.below hb12)
  clear hb12
  go_wp2_with fail
  refine (C11.out _ HT12.out RA.out).mono ?_
  rintro e w13 ⟨v, rfl, ho, hb13⟩
  obtain ⟨A13, c13, rfl, _, _, r13⟩ := ho.out HLb.out
  have RA := Lib.hid (RA.out.below hb13)
  have B13 := Lib.hid (below_both B12.out hb13)
  have HT13 := Lib.hid (HT12.out.below hb13)
  have R1 := Lib.hid r13
  clear ho r13 hb13
  go_wp2_with fail
  refine (C12.out _ RA.out).mono ?_
  rintro e w14 ⟨v, rfl, ho, hb14⟩
  obtain ⟨A14, c14, rfl, _, _, r14⟩ := ho.out HLb.out
  have RA := Lib.hid (RA.out.below hb14)
  have R1 := Lib.hid (R1.out.below hb14)
  have B14 := Lib.hid (below_both B13.out hb14)
  have HT14 := Lib.hid (HT13.out.below hb14)
  have R2 := Lib.hid r14
  clear ho r14 hb14
  go_wp2_with fail
  refine (sameints_yes _ _ _ _ _ L _ HLl.out R1.out R2.out).mono ?_
  rintro e w15 ⟨rfl, hb15⟩
  have RA := Lib.hid (RA.out.below hb15)
  have R1 := Lib.hid (R1.out.below hb15)
  have R2 := Lib.hid (R2.out.below hb15)
  have B15 := Lib.hid (below_both B14.out hb15)
  have HT15 := Lib.hid (HT14.out.below hb15)
  clear hb15
  clear R1 R2
  go_wp2_with fail
  refine (C13.out _ RA.out).mono ?_
  rintro e w' ⟨rfl, rfl⟩
  go_wp2_with fail
  refine (C12.out _ RA.out).mono ?_
  rintro e w16 ⟨v, rfl, ho, hb16⟩
  obtain ⟨A16, c16, rfl, _, _, r16⟩ := ho.out HLb.out
  have RA := Lib.hid (RA.out.below hb16)
  have B16 := Lib.hid (below_both B15.out hb16)
  have HT16 := Lib.hid (HT15.out.below hb16)
  have R2 := Lib.hid r16
  clear ho r16 hb16
  go_wp2_with fail
  go_ret
  exact ⟨by simp, B16.out⟩
end Go.Proofs.YtdpncnplbkmgoaaDoor
