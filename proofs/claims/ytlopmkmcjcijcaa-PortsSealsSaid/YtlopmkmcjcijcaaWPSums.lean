/-
  The walk of the statement PortsSums.
-/
import Derived.Test.YtlopmkmcjcijcaaPo14
import Derived.Test.YtlopmkmcjcijcaaAgree1
namespace Go.Proofs.Ytlopmkmcjcijcaa
open Go.RowKit
set_option linter.unusedVariables false

theorem poSealV_byte {bs : List Nat} (h : ∀ x ∈ bs, x < 256) (k : KeyV) (n : Nat) : ∀ x ∈ poSealV k n bs, x < 256 := by
  unfold poSealV
  split
  · exact poSealed_byte h k n
  · intro x hx; cases hx
theorem poSealV_len {bs : List Nat} {n : Nat} (h : bs.length = n) (hn : n ≤ 140737488355328) (k : KeyV) : (poSealV k n bs).length ≤ 9223372036854775807 := by
  unfold poSealV
  split
  · rw [poSealed_len, h]; omega
  · exact Nat.zero_le _
set_option maxRecDepth 10000 in
set_option maxHeartbeats 1600000 in
theorem walk_PortsSums (f0 : KeyV) (a1 : Option Addr) (len1 cap1 : Nat) (bs1 : List Nat) (w : World) (fk0 : KeyOk f0) (R1 : Row w a1 len1 bs1) (hl1 : len1 ≤ cap1) (hc1 : cap1 ≤ 140737488351232) :
    Calls Try.prog 13 #[.agg f0.cells.toArray, .slice a1 len1 cap1] w fun e w' => e = .returned (.bool true) ∧ Below w.heap.size w w' := by
  have hn : len1 ≤ 140737488355328 := by omega
  obtain ⟨hXl, hXo⟩ := fk0.all
  have C1 := Lib.hid (fun w hR => posum_any f0 fk0 a1 len1 cap1 bs1 w hn hR)
  have C2 := Lib.hid (fun w hR => rposum_any f0 fk0 a1 len1 cap1 bs1 w hn hR)
  have C3 := Lib.hid (fun w hR => poseal_any f0 fk0 a1 len1 cap1 bs1 w hn hR)
  have C4 := Lib.hid (fun w hR => rposeal_any f0 fk0 a1 len1 cap1 bs1 w hn hR)
  have HLB := Lib.hid (And.intro (poSealV_len R1.1 hn f0) (poSealV_byte R1.2.1 f0 len1))
  obtain ⟨L, hL⟩ : ∃ L, L = poSealV f0 len1 bs1 := ⟨_, rfl⟩
  obtain ⟨s, hs⟩ : ∃ s, s = poSum f0 len1 bs1 := ⟨_, rfl⟩
  obtain ⟨r, hr⟩ : ∃ r, r = poWrong f0.v f0.p len1 := ⟨_, rfl⟩
  rw [← hL] at C3 C4 HLB
  rw [← hs] at C1 C2
  rw [← hr] at C1 C2 C3 C4
  obtain ⟨X, hX⟩ : ∃ X, X = f0.cells := ⟨_, rfl⟩
  rw [← hX] at C1 C2 C3 C4 hXl hXo ⊢
  have e1 : ((r : Int) == (r : Int)) = true := by simp
  have e2 : ((s : Int) == (s : Int)) = true := by simp
  have HR := Lib.hid R1
  obtain ⟨V, eV⟩ : ∃ V, V = w.alloc (.cells X.toArray 73) := ⟨_, rfl⟩
  have HA : Hid (ArrV 73 V w.heap.size X) := by show ArrV _ _ _ _; rw [eV]; exact ArrV.new _ w _
  have BV : Hid (Below w.heap.size w V) := by show Below _ _ _; rw [eV]; exact (Below.refl _ _).alloc (Nat.le_refl _) _
  clear hL hs hr hX R1 hl1 hc1 hn fk0
  go_enter Try.func13, Try.ntmps13
  go_upto_region 1 with fail
  rw [← eV]
  obtain ⟨g, hg⟩ : ∃ g, g = w.heap.size := ⟨_, rfl⟩
  rw [← hg] at HA ⊢
  clear eV hg
  refine wp_region_lit ?_
  go_wp2_with (refine wpList_load_v rfl 73 (.tmp 2) rfl _ rfl tykey HA.out hXl ?_)
  refine (C1.out _ (HR.out.below BV.out)).mono ?_
  rintro e w1 ⟨rfl, b1⟩
  have A1 := Lib.hid (HA.out.below b1)
  have B1 := Lib.hid (below_both BV.out b1)
  clear b1 HA BV C1
  go_upto_region 2 with fail
  refine wp_region_lit ?_
  go_wp2_with (refine wpList_load_v rfl 73 (.tmp 2) rfl _ rfl tykey A1.out hXl ?_)
  refine (C2.out _ (HR.out.below B1.out)).mono ?_
  rintro e w2 ⟨rfl, b2⟩
  have A2 := Lib.hid (A1.out.below b2)
  have B2 := Lib.hid (below_both B1.out b2)
  clear b2 A1 B1 C2
  go_upto_region 3 with fail
  refine wp_region_lit ?_
  go_wp2_with (refine wpList_load_v rfl 73 (.tmp 2) rfl _ rfl tykey A2.out hXl ?_)
  refine (C3.out _ (HR.out.below B2.out)).mono ?_
  rintro e w3 ⟨v3, rfl, o3, b3⟩
  have R3 := Lib.hid (o3.val HLB.out.2)
  have A3 := Lib.hid (A2.out.below b3)
  have B3 := Lib.hid (below_both B2.out b3)
  clear b3 A2 B2 C3 o3
  go_upto_region 4 with fail
  refine wp_region_lit ?_
  go_wp2_with (refine wpList_load_v rfl 73 (.tmp 2) rfl _ rfl tykey A3.out hXl ?_)
  refine (C4.out _ (HR.out.below B3.out)).mono ?_
  rintro e w4 ⟨v4, rfl, o4, b4⟩
  have R3 := Lib.hid (R3.out.below b4)
  have R4 := Lib.hid (o4.val HLB.out.2)
  have B4 := Lib.hid (below_both B3.out b4)
  clear b4 A3 B3 C4 o4
  go_wp2_with fail
  refine (sure13 _).mono ?_
  rintro e w5 ⟨rfl, b5⟩
  have R3 := Lib.hid (R3.out.below b5)
  have R4 := Lib.hid (R4.out.below b5)
  have B5 := Lib.hid (below_both B4.out b5)
  clear b5 B4
  go_wp2_with fail
  refine (same_vals v3 v4 L _ HLB.out.1 R3.out R4.out).mono ?_
  rintro e w6 ⟨rfl, b6⟩
  have B6 := Lib.hid (below_both B5.out b6)
  clear b6 B5
  go_wp2_with fail
  go_ret
  exact ⟨rfl, B6.out⟩
end Go.Proofs.Ytlopmkmcjcijcaa
