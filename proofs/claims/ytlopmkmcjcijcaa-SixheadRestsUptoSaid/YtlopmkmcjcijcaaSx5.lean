/-
  Layer 12's examples.
-/
import Derived.Test.YtlopmkmcjcijcaaSx3
import Derived.Test.YtlopmkmcjcijcaaSx4
import Derived.Test.YtlopmkmcjcijcaaSxEq
import Derived.Test.YtlopmkmcjcijcaaFh13
import Derived.Test.YtlopmkmcjcijcaaApp
import Derived.Test.YtlopmkmcjcijcaaFh11
import Derived.StillTailTactics
namespace Go.Proofs.Ytlopmkmcjcijcaa
open Go.RowKit
set_option linter.unusedVariables false

def S12 : SixV := ⟨fun j => match j with | 0 => 184 | 1 => 74565 | 2 => 4 | 3 => 17 | _ => 64, [32, 1, 0, 0, 0, 0, 0, 0, 0, 0, 0, 0, 0, 0, 0, 0], [0, 0, 0, 0, 0, 0, 0, 0, 0, 0, 0, 0, 0, 0, 0, 9]⟩
def S13 : SixV := ⟨fun j => match j with | 1 => 1048576 | _ => 0, List.replicate 16 0, List.replicate 16 0⟩
def B40 : List Nat := [107, 129, 35, 69, 0, 4, 17, 64, 32, 1, 0, 0, 0, 0, 0, 0, 0, 0, 0, 0, 0, 0, 0, 0, 0, 0, 0, 0, 0, 0, 0, 0, 0, 0, 0, 0, 0, 0, 0, 9]
theorem s12_k (j : Nat) : -9223372036854775808 ≤ S12.k j ∧ S12.k j ≤ 9223372036854775807 := by unfold S12; dsimp only; split <;> decide
theorem s13_k (j : Nat) : -9223372036854775808 ≤ S13.k j ∧ S13.k j ≤ 9223372036854775807 := by unfold S13; dsimp only; split <;> decide
theorem s12_fits : S12.fitsTo 5 = true := by decide +kernel
theorem s13_fits : S13.fitsTo 5 = false := by decide +kernel
theorem s12_bytes : S12.bytes = B40 := by decide +kernel
theorem s12_def : sxdef 40 B40 = 0 := by decide +kernel
theorem s12_val : sxval 40 B40 = S12.cells := by
  unfold sxval
  rw [if_pos s12_def]
  rfl
theorem s12_all : sxall 40 B40 = [7] := by decide +kernel
theorem s12_rest : sxrest 45 (B40 ++ [1, 2, 3, 4, 5]) = some [1, 2, 3, 4] := by decide +kernel
theorem s12_no : sxrest 40 B40 = none := by decide +kernel
theorem s12_short : sxdef 39 (B40.take 39) = 3 := by decide +kernel
theorem s12_z : sxval 39 (B40.take 39) = sxZ := by
  unfold sxval
  rw [if_neg (by rw [s12_short]; decide)]
theorem l12_write (w : World) : Calls Try.prog 38 #[.agg S12.cells.toArray] w fun e w' => ∃ A c, e = .returned (.tuple #[.slice A 40 c, .int .i64 0]) ∧ 40 ≤ c ∧ Row w' A 40 B40 ∧ Below w.heap.size w w' := by
  have h := sxwrite_any S12 w rfl rfl (by decide) (by decide) s12_k
  rw [if_pos s12_fits, if_pos s12_fits, s12_bytes] at h
  refine h.mono ?_
  rintro e w' ⟨v, rfl, ⟨A, c, rfl, h1, h2⟩, hb⟩
  exact ⟨A, c, rfl, h1, h2, hb⟩
theorem l12_bad (w : World) : Calls Try.prog 38 #[.agg S13.cells.toArray] w fun e w' => ∃ v, e = .returned (.tuple #[v, .int .i64 1]) ∧ Below w.heap.size w w' := by
  have h := sxwrite_any S13 w rfl rfl (by decide) (by decide) s13_k
  rw [if_neg (by rw [s13_fits]; decide), if_neg (by rw [s13_fits]; decide)] at h
  refine h.mono ?_
  rintro e w' ⟨v, rfl, _, hb⟩
  exact ⟨v, rfl, hb⟩
theorem l12_read (A : Option Addr) (c : Nat) (w : World) (hc : 40 ≤ c) (h : Row w A 40 B40) : Calls Try.prog 31 #[.slice A 40 c] w fun e w' => e = .returned (.tuple #[.agg S12.cells.toArray, .int .i64 0]) ∧ Below w.heap.size w w' := by
  have h := sxread_any A 40 c B40 w (by decide) hc h
  unfold SxReadIs at h
  rw [s12_val, s12_def] at h
  exact h
theorem l12_short (A : Option Addr) (c : Nat) (w : World) (hc : 40 ≤ c) (h : Row w A 40 B40) : Calls Try.prog 31 #[.slice A 39 c] w fun e w' => e = .returned (.tuple #[.agg sxZ.toArray, .int .i64 3]) ∧ Below w.heap.size w w' := by
  obtain ⟨b, o, rfl, _, _⟩ := h.addr (by decide)
  have h2 := h.part 0 39 (by decide)
  have h := sxread_any (some ⟨b, o, none⟩) 39 c (B40.take 39) w (by decide) (by omega) h2
  unfold SxReadIs at h
  rw [s12_z, s12_short] at h
  exact h
theorem l12_all (A : Option Addr) (c : Nat) (w : World) (hc : 40 ≤ c) (h : Row w A 40 B40) : Calls Try.prog 36 #[.slice A 40 c] w fun e w' => ∃ b o c', e = .returned (.slice (some ⟨b, o, none⟩) 1 c') ∧ (b < w'.heap.size ∧ w'.cell? ⟨b, o, none⟩ = some (.int .i64 7)) ∧ Below w.heap.size w w' := by
  have h := sxall_any A 40 c B40 w (by decide) hc h
  unfold SxAllIs at h
  rw [s12_all] at h
  refine h.mono ?_
  rintro e w' ⟨v, he, ⟨A', c', ev, h1, h2⟩, hb⟩
  subst ev
  obtain ⟨b, o, rfl, hb', hc'⟩ := h2 0 7 rfl
  exact ⟨b, o, c', he, ⟨hb', hc'⟩, hb⟩
theorem l12_rest (A : Option Addr) (c : Nat) (w : World) (hc : 45 ≤ c) (h : Row w A 45 (B40 ++ [1, 2, 3, 4, 5])) : Calls Try.prog 33 #[.slice A 45 c] w fun e w' => ∃ A' c', e = .returned (.tuple #[.slice A' 4 c', .bool true]) ∧ Row w' A' 4 [1, 2, 3, 4] ∧ Below w.heap.size w w' := by
  have h := sxrest_any A 45 c (B40 ++ [1, 2, 3, 4, 5]) w (by decide) hc h
  unfold SxRestIs at h
  rw [s12_rest] at h
  refine h.mono ?_
  rintro e w' ⟨v, rfl, ⟨A', c', ev, h1, h2⟩, hb⟩
  subst ev
  exact ⟨A', c', rfl, h2, hb⟩
theorem l12_no (A : Option Addr) (c : Nat) (w : World) (hc : 40 ≤ c) (h : Row w A 40 B40) : Calls Try.prog 33 #[.slice A 40 c] w fun e w' => ∃ v, e = .returned (.tuple #[v, .bool false]) ∧ Below w.heap.size w w' := by
  have h := sxrest_any A 40 c B40 w (by decide) hc h
  unfold SxRestIs at h
  rw [s12_no] at h
  refine h.mono ?_
  rintro e w' ⟨v, rfl, _, hb⟩
  exact ⟨v, rfl, hb⟩
set_option maxRecDepth 10000 in
set_option maxHeartbeats 6400000 in
theorem live12 (w : World) : Calls Try.prog 35 #[] w fun e w' => e = .returned (.bool true) ∧ Below w.heap.size w w' := by
  obtain ⟨X, hX⟩ : ∃ X, X = S12.cells := ⟨_, rfl⟩
  obtain ⟨hXl, hXo⟩ := SixV.cells_all (f := S12) rfl rfl
  obtain ⟨Y, hY⟩ : ∃ Y, Y = S13.cells := ⟨_, rfl⟩
  obtain ⟨Z, hZ⟩ : ∃ Z, Z = sxZ := ⟨_, rfl⟩
  obtain ⟨hZl, hZo⟩ := sxZ_one
  have CR := Lib.hid l12_read
  have CS := Lib.hid l12_short
  have CW := Lib.hid l12_write
  have CB := Lib.hid l12_bad
  have HEQ : Hid (∀ w, (Op.equalIn 10000 51 (.agg S12.cells.toArray) (.agg S12.cells.toArray)).run Try.prog w = .ok true w) := fun w => six_same rfl rfl (by decide) (by decide) s12_k w
  rw [← hX] at CR CW hXl hXo HEQ
  rw [← hZ] at CS hZl hZo
  rw [← hY] at CB
  have hlit : (#[.int .i64 184, .int .i64 74565, .int .i64 4, .int .i64 17, .int .i64 64, .int .u8 32, .int .u8 1, .int .u8 0, .int .u8 0, .int .u8 0, .int .u8 0, .int .u8 0, .int .u8 0, .int .u8 0, .int .u8 0, .int .u8 0, .int .u8 0, .int .u8 0, .int .u8 0, .int .u8 0, .int .u8 0, .int .u8 0, .int .u8 0, .int .u8 0, .int .u8 0, .int .u8 0, .int .u8 0, .int .u8 0, .int .u8 0, .int .u8 0, .int .u8 0, .int .u8 0, .int .u8 0, .int .u8 0, .int .u8 0, .int .u8 0, .int .u8 9] : Array Value) = X.toArray := by rw [hX]; rfl
  have hlit2 : (#[.int .i64 0, .int .i64 1048576, .int .i64 0, .int .i64 0, .int .i64 0, .int .u8 0, .int .u8 0, .int .u8 0, .int .u8 0, .int .u8 0, .int .u8 0, .int .u8 0, .int .u8 0, .int .u8 0, .int .u8 0, .int .u8 0, .int .u8 0, .int .u8 0, .int .u8 0, .int .u8 0, .int .u8 0, .int .u8 0, .int .u8 0, .int .u8 0, .int .u8 0, .int .u8 0, .int .u8 0, .int .u8 0, .int .u8 0, .int .u8 0, .int .u8 0, .int .u8 0, .int .u8 0, .int .u8 0, .int .u8 0, .int .u8 0, .int .u8 0] : Array Value) = Y.toArray := by rw [hY]; rfl
  have HZ := Lib.hid hZ
  clear hX hY hZ
  obtain ⟨hst, hA, hb⟩ := six_stored w X hXl hXo
  go_enter Try.func35, Try.ntmps35
  go_upto_region 2 with fail
  clear hst
  obtain ⟨V, eV⟩ : ∃ V, V = (w.alloc (.cells (Value.int .i64 0 :: Value.int .i64 0 :: Value.int .i64 0 :: Value.int .i64 0 :: Value.int .i64 0 :: Value.int .u8 0 :: Value.int .u8 0 :: Value.int .u8 0 :: Value.int .u8 0 :: Value.int .u8 0 :: Value.int .u8 0 :: Value.int .u8 0 :: Value.int .u8 0 :: Value.int .u8 0 :: Value.int .u8 0 :: Value.int .u8 0 :: Value.int .u8 0 :: Value.int .u8 0 :: Value.int .u8 0 :: Value.int .u8 0 :: Value.int .u8 0 :: Value.int .u8 0 :: Value.int .u8 0 :: Value.int .u8 0 :: Value.int .u8 0 :: Value.int .u8 0 :: Value.int .u8 0 :: Value.int .u8 0 :: Value.int .u8 0 :: Value.int .u8 0 :: Value.int .u8 0 :: Value.int .u8 0 :: Value.int .u8 0 :: Value.int .u8 0 :: Value.int .u8 0 :: Value.int .u8 0 :: Value.int .u8 0 :: [] : List Value).toArray 51)).setCells w.heap.size 0 X := ⟨_, rfl⟩
  obtain ⟨hA2, hb2⟩ := six_world w X V eV hA hb
  have A1 := Lib.hid hA2
  have B1 := Lib.hid hb2
  rw [← eV]
  obtain ⟨g1, hg1⟩ : ∃ g, g = w.heap.size := ⟨_, rfl⟩
  rw [← hg1] at A1 ⊢
  clear eV hA hb hA2 hb2 hg1
  refine wp_region_lit ?_
  go_wp2_with (refine wpList_load_v rfl 51 (.tmp 1) rfl _ rfl tysix A1.out hXl ?_)
  refine (CW.out _).mono ?_
  rintro e w2 ⟨AB, cB, rfl, hc2, r2, b2⟩
  have A2 := Lib.hid (A1.out.below b2)
  have B2 := Lib.hid (below_both B1.out b2)
  have R2 := Lib.hid r2
  have HC := Lib.hid hc2
  clear hc2 r2 b2 A1 B1
  go_wp2_with fail
  refine (CR.out _ _ _ HC.out R2.out).mono ?_
  rintro e w3 ⟨rfl, b3⟩
  obtain ⟨hst, hA, hb⟩ := six_stored w3 X hXl hXo
  go_upto_region 6 with fail
  clear hst
  obtain ⟨V3, eV⟩ : ∃ V, V = (w3.alloc (.cells (Value.int .i64 0 :: Value.int .i64 0 :: Value.int .i64 0 :: Value.int .i64 0 :: Value.int .i64 0 :: Value.int .u8 0 :: Value.int .u8 0 :: Value.int .u8 0 :: Value.int .u8 0 :: Value.int .u8 0 :: Value.int .u8 0 :: Value.int .u8 0 :: Value.int .u8 0 :: Value.int .u8 0 :: Value.int .u8 0 :: Value.int .u8 0 :: Value.int .u8 0 :: Value.int .u8 0 :: Value.int .u8 0 :: Value.int .u8 0 :: Value.int .u8 0 :: Value.int .u8 0 :: Value.int .u8 0 :: Value.int .u8 0 :: Value.int .u8 0 :: Value.int .u8 0 :: Value.int .u8 0 :: Value.int .u8 0 :: Value.int .u8 0 :: Value.int .u8 0 :: Value.int .u8 0 :: Value.int .u8 0 :: Value.int .u8 0 :: Value.int .u8 0 :: Value.int .u8 0 :: Value.int .u8 0 :: Value.int .u8 0 :: [] : List Value).toArray 51)).setCells w3.heap.size 0 X := ⟨_, rfl⟩
  obtain ⟨hA2, hb2⟩ := six_world w3 X V3 eV hA hb
  have hbb := below_both b3 hb2
  have T3 := Lib.hid hA2
  have A3 := Lib.hid (A2.out.below hbb)
  have B3 := Lib.hid (below_both B2.out hbb)
  have R3 := Lib.hid (R2.out.below hbb)
  rw [← eV]
  obtain ⟨g3, hg3⟩ : ∃ g, g = w3.heap.size := ⟨_, rfl⟩
  rw [← hg3] at T3 ⊢
  clear eV hA hb hA2 hb2 hg3 hbb b3 A2 B2 R2
  go_wp2_with fail
  refine (l12_all _ _ _ HC.out R3.out).mono ?_
  rintro e w4 ⟨b4, o4, c4, rfl, d4, bb4⟩
  have T4 := Lib.hid (T3.out.below bb4)
  have A4 := Lib.hid (A3.out.below bb4)
  have B4 := Lib.hid (below_both B3.out bb4)
  have R4 := Lib.hid (R3.out.below bb4)
  have D4 := Lib.hid d4
  clear d4 bb4 T3 A3 B3 R3
  have O0 : Hid (OutIs w4.heap.size (w4.alloc (.cells #[] 5)) (.slice (some ⟨w4.heap.size, 0, none⟩) 0 0) []) := OutIs.laid w4 [] w4.heap.size (Nat.le_refl _) (by decide)
  have B5 : Hid (Below w4.heap.size w4 (w4.alloc (.cells #[] 5))) := (Below.refl _ _).alloc (Nat.le_refl _) _
  have R5 := Lib.hid (R4.out.below B5.out)
  have HBB : Hid (∀ x ∈ B40 ++ [1, 2, 3, 4, 5], x < 256) := by show ∀ x ∈ B40 ++ [1, 2, 3, 4, 5], x < 256; decide
  go_upto_region 7 with fail
  refine wp_region_lit ?_
  go_wp2_with (first
    | (at_builtin; refine wpList_append_row_any (B := w4.heap.size) (W := w4) rfl (.tmp 38) (.tmp 39) rfl rfl rfl rfl O0.out R5.out B5.out B5.out.size (by decide) ?_; intro v6 w6 ho6 hb6; rw [List.nil_append] at ho6; have O6 := Lib.hid ho6; have B6 := Lib.hid hb6; have Z6 : Hid (w4.heap.size ≤ w6.heap.size) := hb6.size; clear ho6 hb6)
    | (at_builtin; refine wpList_append_bytes (B := w4.heap.size) (W := w4) (wr := w6) (news := [1, 2, 3, 4, 5]) rfl (.tmp 40) (.tmp 41) rfl _ 5 rfl rfl rfl rfl O6.out B6.out Z6.out (by decide) ?_; intro v7 w7 ho7 hb7; obtain ⟨A7, c7, rfl, h1, h2, h3⟩ := ho7.out HBB.out; have H7 : Hid (45 ≤ c7) := h1; have R7 : Hid (Row w7 A7 45 (B40 ++ [1, 2, 3, 4, 5])) := h3; have B7 := Lib.hid hb7; clear ho7 hb7 h1 h2 h3)
    | fail)
  refine (l12_rest A7 c7 w7 H7.out R7.out).mono ?_
  rintro e w8 ⟨A8, c8, rfl, r8, b8⟩
  have hbb := below_both B7.out b8
  have T8 := Lib.hid (T4.out.below hbb)
  have A8' := Lib.hid (A4.out.below hbb)
  have B8 := Lib.hid (below_both B4.out hbb)
  have R8 := Lib.hid (R4.out.below hbb)
  have D8 := Lib.hid (cell_keep D4.out hbb)
  have S8 := Lib.hid r8
  clear r8 b8 hbb T4 A4 B4 R4 D4 O0 B5 R5 O6 B6 Z6 H7 R7 B7
  go_wp2_with fail
  refine (l12_no _ _ _ HC.out R8.out).mono ?_
  rintro e w9 ⟨v9, rfl, b9⟩
  have T9 := Lib.hid (T8.out.below b9)
  have A9 := Lib.hid (A8'.out.below b9)
  have B9 := Lib.hid (below_both B8.out b9)
  have R9 := Lib.hid (R8.out.below b9)
  have D9 := Lib.hid (cell_keep D8.out b9)
  have S9 := Lib.hid (S8.out.below b9)
  clear b9 T8 A8' B8 R8 D8 S8
  have i39 : (39 : Int) ≤ (cB : Int) := by have := HC.out; omega
  go_wp2_with fail
  refine (CS.out _ _ _ HC.out R9.out).mono ?_
  rintro e w10 ⟨rfl, b10⟩
  obtain ⟨hst, hA, hb⟩ := six_stored w10 Z hZl hZo
  go_upto_region 10 with fail
  clear hst
  obtain ⟨V10, eV⟩ : ∃ V, V = (w10.alloc (.cells (Value.int .i64 0 :: Value.int .i64 0 :: Value.int .i64 0 :: Value.int .i64 0 :: Value.int .i64 0 :: Value.int .u8 0 :: Value.int .u8 0 :: Value.int .u8 0 :: Value.int .u8 0 :: Value.int .u8 0 :: Value.int .u8 0 :: Value.int .u8 0 :: Value.int .u8 0 :: Value.int .u8 0 :: Value.int .u8 0 :: Value.int .u8 0 :: Value.int .u8 0 :: Value.int .u8 0 :: Value.int .u8 0 :: Value.int .u8 0 :: Value.int .u8 0 :: Value.int .u8 0 :: Value.int .u8 0 :: Value.int .u8 0 :: Value.int .u8 0 :: Value.int .u8 0 :: Value.int .u8 0 :: Value.int .u8 0 :: Value.int .u8 0 :: Value.int .u8 0 :: Value.int .u8 0 :: Value.int .u8 0 :: Value.int .u8 0 :: Value.int .u8 0 :: Value.int .u8 0 :: Value.int .u8 0 :: Value.int .u8 0 :: [] : List Value).toArray 51)).setCells w10.heap.size 0 Z := ⟨_, rfl⟩
  obtain ⟨hA2, hb2⟩ := six_world w10 Z V10 eV hA hb
  have hbb := below_both b10 hb2
  have T10 := Lib.hid (T9.out.below hbb)
  have A10 := Lib.hid (A9.out.below hbb)
  have B10 := Lib.hid (below_both B9.out hbb)
  have R10 := Lib.hid (R9.out.below hbb)
  have D10 := Lib.hid (cell_keep D9.out hbb)
  have S10 := Lib.hid (S9.out.below hbb)
  rw [← eV]
  clear eV hA hb hA2 hb2 hbb b10 T9 A9 B9 R9 D9 S9
  go_wp2_with fail
  refine (CB.out _).mono ?_
  rintro e w11 ⟨v11, rfl, b11⟩
  have T11 := Lib.hid (T10.out.below b11)
  have A11 := Lib.hid (A10.out.below b11)
  have B11 := Lib.hid (below_both B10.out b11)
  have d11 := (cell_keep D10.out b11).2
  have R11 := R10.out.below b11
  have S11 := S10.out.below b11
  obtain ⟨b0, o0, eA, _, hcl⟩ := R11.addr (by decide)
  subst eA
  have e0 : w11.cell? ⟨b0, o0, none⟩ = some (.int .u8 107) := hcl 0 (by decide)
  have e1 : w11.cell? ⟨b0, o0 + 1, none⟩ = some (.int .u8 129) := hcl 1 (by decide)
  have hcv : (convert 22 9 (.slice A8 4 c8)).run Try.prog w11 = .ok (.string ⟨#[1, 2, 3, 4]⟩) w11 := (conv_str S11).trans (by rfl)
  have heq := HEQ.out
  clear b11 R11 S11 hcl T10 A10 B10 D10 R10 S10 hlit hlit2 i39 HEQ CR CS CW CB
  go_upto_region 11 with fail
  refine wp_region_lit ?_
  go_wp2_with (first | refine wpList_load_vg (by rfl) 51 (.tmp 4) rfl _ rfl tysix T11.out hXl ?_ | refine wpList_load_vg (by rfl) 51 (.tmp 1) rfl _ rfl tysix A11.out hXl ?_ | fail)
  go_ret
  exact ⟨rfl, B11.out⟩
end Go.Proofs.Ytlopmkmcjcijcaa
