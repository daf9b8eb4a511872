/-
  The walk of the statement BitrowJoins.
-/
import Derived.Test.YtdpncnplbkmgoaaDoorBr11
namespace Go.Proofs.YtdpncnplbkmgoaaDoor
open Go.RowKit
set_option linter.unusedVariables false

set_option maxRecDepth 10000 in
set_option maxHeartbeats 3200000 in
theorem walk_BitrowJoins (A : Option Addr) (n cap : Nat) (xss : List (List Nat)) (w : World) (hT : Bru w) (hn : xss.length = n) (hA : RowsAt w A xss) (hW : Words xss) (hnl : n ≤ maxLen) :
    Calls Tryd.prog 4 #[.slice A n cap] w fun e w' => e = .returned (.bool true) ∧ Below w.heap.size w w' := by
  have HT0 := Lib.hid hT
  have HA := Lib.hid hA
  clear hT hA
  by_cases hbig : 20 < n
  · have hb : (20 : Int) < (n : Int) := by omega
    clear hn hW hnl hbig
    go_enter Tryd.func4, Tryd.ntmps4
    go_wp2_with (go_at_call 7; refine (live18 _ HT0.out).mono ?_; rintro e w' ⟨rfl, hb⟩)
    go_ret
    exact ⟨rfl, hb⟩
  have hnn : (n : Int) ≤ 20 := by omega
  have HN := Lib.hid hn
  have HW := Lib.hid hW
  clear hn hW hnl hbig
  go_enter Tryd.func4, Tryd.ntmps4
  go_wp2_with fail
  go_loop [3] (fun i => ∃ k : Nat, k ≤ n ∧ i = .int .i64 (k : Int) ∧ Hid (∀ j, j < k → (xss.getD j []).length ≤ 20)) (fun i => n - (intOf i).toNat)
  case atStart => exact ⟨0, Nat.zero_le _, rfl, fun j h => absurd h (Nat.not_lt_zero _)⟩
  case round =>
    obtain ⟨k, hk, rfl, hall⟩ := hrel
    by_cases hlt : k < n
    · obtain ⟨b, o, A', c, rfl, hb, h1, hR⟩ := HA.out k (by rw [HN.out]; exact hlt)
      by_cases hl : 20 < (xss.getD k []).length
      · obtain ⟨y, hy⟩ : ∃ y, y = (xss.getD k []).length := ⟨_, rfl⟩
        rw [← hy] at h1 hl
        have hyi : (20 : Int) < (y : Int) := by omega
        clear hy hR hb hl
        go_wp2_with (go_at_call 7; refine (live18 _ HT0.out).mono ?_; rintro e w' ⟨rfl, hb⟩)
        go_ret
        exact ⟨rfl, hb⟩
      · have hall2 : Hid (∀ j, j < k + 1 → (xss.getD j []).length ≤ 20) := fun j hj => by
          rcases Nat.lt_or_ge j k with h | h
          · exact hall.out j h
          · obtain rfl : j = k := by omega
            omega
        obtain ⟨y, hy⟩ : ∃ y, y = (xss.getD k []).length := ⟨_, rfl⟩
        rw [← hy] at h1 hl
        have hyi : (y : Int) ≤ 20 := by omega
        clear hy hR hb hl
        go_wp2_with fail
        go_round
        case rel => exact ⟨k + 1, hlt, by go_num, hall2⟩
        case measure => simp [intOf]; omega
    · obtain rfl : k = n := by omega
      have hm : ∀ j, (xss.getD j []).length ≤ 1000 := fun j => by
        rcases Nat.lt_or_ge j k with h | h
        · exact Nat.le_trans (hall.out j h) (by decide)
        · rw [List.getD_eq_getElem?_getD, List.getElem?_eq_none (by rw [HN.out]; exact h)]
          exact Nat.zero_le _
      have C1 := Lib.hid (fun w hA => brand_any A k cap xss w hA HN.out (by omega) hm HW.out)
      have C2 := Lib.hid (fun w hA => rand_any A k cap xss w hA HN.out (by omega) hm HW.out)
      have C3 := Lib.hid (fun w hA => bror_any A k cap xss w hA HN.out (by omega) hm HW.out)
      have C4 := Lib.hid (fun w hA => ror_any A k cap xss w hA HN.out (by omega) hm HW.out)
      have HXb := Lib.hid (andRow_word xss)
      have HYb := Lib.hid (orRow_word HW.out)
      have HXl : Hid ((andRow xss).length ≤ 1048576) := by rw [andRow_length]; exact Nat.le_trans (minTo_le hm _ (Nat.le_refl _)) (by decide)
      have HYl : Hid ((orRow xss).length ≤ 1048576) := by rw [orRow_length]; exact Nat.le_trans (maxTo_le hm _ (Nat.le_refl _)) (by decide)
      obtain ⟨X, hX⟩ : ∃ X, X = andRow xss := ⟨_, rfl⟩
      obtain ⟨Y, hY⟩ : ∃ Y, Y = orRow xss := ⟨_, rfl⟩
      rw [← hX] at C1 C2 HXb HXl
      rw [← hY] at C3 C4 HYb HYl
      have B0 : Hid (Below w.heap.size w w) := Below.refl _ _
      clear hX hY hm hlt hk hall
      go_wp2_with fail
      refine (live18 _ HT0.out).mono ?_
      rintro e w1 ⟨rfl, hb1⟩
      have HA := Lib.hid (HA.out.below hb1)
      have B1 := Lib.hid (below_both B0.out hb1)
      clear hb1 B0
      go_wp2_with fail
      refine (C1.out _ HA.out).mono ?_
      rintro e w2 ⟨v, rfl, ho, hb2⟩
      obtain ⟨A2, c2, rfl, _, _, r2⟩ := ho.out HXb.out
      have R1 := Lib.hid r2
      have HA := Lib.hid (HA.out.below hb2)
      have B2 := Lib.hid (below_both B1.out hb2)
      clear ho r2 hb2 B1
      go_wp2_with fail
      refine (C2.out _ HA.out).mono ?_
      rintro e w3 ⟨v, rfl, ho, hb3⟩
      obtain ⟨A3, c3, rfl, _, _, r3⟩ := ho.out HXb.out
      have R2 := Lib.hid r3
      have R1 := Lib.hid (R1.out.below hb3)
      have HA := Lib.hid (HA.out.below hb3)
      have B3 := Lib.hid (below_both B2.out hb3)
      clear ho r3 hb3 B2
      go_wp2_with fail
      refine (rowsame_yes _ _ _ _ _ X _ HXl.out R1.out R2.out).mono ?_
      rintro e w4 ⟨rfl, hb4⟩
      have HA := Lib.hid (HA.out.below hb4)
      have B4 := Lib.hid (below_both B3.out hb4)
      clear hb4 B3 R1 R2
      go_wp2_with fail
      refine (C3.out _ HA.out).mono ?_
      rintro e w5 ⟨v, rfl, ho, hb5⟩
      obtain ⟨A5, c5, rfl, _, _, r5⟩ := ho.out HYb.out
      have R1 := Lib.hid r5
      have HA := Lib.hid (HA.out.below hb5)
      have B5 := Lib.hid (below_both B4.out hb5)
      clear ho r5 hb5 B4
      go_wp2_with fail
      refine (C4.out _ HA.out).mono ?_
      rintro e w6 ⟨v, rfl, ho, hb6⟩
      obtain ⟨A6, c6, rfl, _, _, r6⟩ := ho.out HYb.out
      have R2 := Lib.hid r6
      have R1 := Lib.hid (R1.out.below hb6)
      have B6 := Lib.hid (below_both B5.out hb6)
      clear ho r6 hb6 B5
      go_wp2_with fail
      refine (rowsame_yes _ _ _ _ _ Y _ HYl.out R1.out R2.out).mono ?_
      rintro e w7 ⟨rfl, hb7⟩
      have B7 := Lib.hid (below_both B6.out hb7)
      clear hb7 B6
      go_wp2_with fail
      go_ret
      exact ⟨rfl, B7.out⟩
end Go.Proofs.YtdpncnplbkmgoaaDoor
