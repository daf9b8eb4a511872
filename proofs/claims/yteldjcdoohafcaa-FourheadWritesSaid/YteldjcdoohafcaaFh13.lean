/-
  Seal where Read refuses; the examples of layer 10 come out as they must: the contract of weighbridgelaw10.live.
-/
import Derived.Test.YteldjcdoohafcaaFh12
import Derived.Test.YteldjcdoohafcaaFh10
import Derived.Test.YteldjcdoohafcaaSames
import Derived.Test.YteldjcdoohafcaaFh6
namespace Go.Proofs.Yteldjcdoohafcaa
open Go.RowKit
set_option linter.unusedVariables false

set_option maxRecDepth 10000 in
set_option maxHeartbeats 3200000 in
theorem fhseal_bad (A : Option Addr) (n c : Nat) (bs : List Nat) (w : World) (hn2 : n ≤ 140737488355328) (hc : n ≤ c) (hR : Row w A n bs) (hd : fhdef n bs ≠ 0) :
    Calls Try.prog 25 #[.slice A n c] w fun e w' => e = .returned (.tuple #[.slice none 0 0, .int .i64 3]) ∧ Below w.heap.size w w' := by
  have C := Lib.hid (fhread_any A n c bs w hn2 hc hR)
  unfold ReadIs at C
  obtain ⟨X, hX⟩ : ∃ X, X = fhval n bs := ⟨_, rfl⟩
  have hXl : X.length = 17 := by rw [hX]; exact fhval_len n bs
  have hXo : ∀ v ∈ X, v.oneCell' = true := by rw [hX]; exact fhval_one n bs
  rw [← hX] at C
  obtain ⟨d, hdd⟩ : ∃ d, d = fhdef n bs := ⟨_, rfl⟩
  rw [← hdd] at C hd
  have d0 : ((d : Int) != 0) = true := bne_iff_ne.2 (by omega)
  clear hX hdd hR hn2 hc hd
  go_enter Try.func25, Try.ntmps25
  go_wp2_with fail
  refine C.out.mono ?_
  rintro e w1 ⟨rfl, b1⟩
  obtain ⟨hst, hA, hb⟩ := four_stored w1 X hXl hXo
  have B1 := Lib.hid (below_both b1 hb)
  clear b1 hA hb
  go_upto_region 2 with fail
  clear hst
  obtain ⟨W, eW⟩ : ∃ W, W = (w1.alloc (.cells #[.int .i64 0, .int .i64 0, .int .i64 0, .int .i64 0, .int .i64 0, .int .i64 0, .int .i64 0, .int .i64 0, .int .i64 0, .int .u8 0, .int .u8 0, .int .u8 0, .int .u8 0, .int .u8 0, .int .u8 0, .int .u8 0, .int .u8 0] 25)).setCells w1.heap.size 0 X := ⟨_, rfl⟩
  rw [← eW] at B1 ⊢
  clear eW
  go_wp2_with fail
  go_ret2
  exact ⟨rfl, B1.out⟩
def H20 : List Nat := [69, 184, 0, 20, 0, 7, 32, 0, 64, 17, 0, 0, 10, 0, 0, 1, 10, 0, 0, 2]
def S20 : List Nat := [69, 184, 0, 20, 0, 7, 32, 0, 64, 17, 70, 24, 10, 0, 0, 1, 10, 0, 0, 2]
theorem seal_H20 : fhseal H20 20 = S20 := by decide
theorem def_H20 : fhdef 20 H20 = 0 := by decide
theorem def_S20 : fhdef 20 S20 = 0 := by decide
def F20 : FourV := ⟨5, 184, 20, 7, 1, 0, 64, 17, 17944, [10, 0, 0, 1], [10, 0, 0, 2]⟩
theorem cells_F20 : fhf S20 = F20.cells := by rfl
theorem bytes_F20 : F20.bytes [] = S20 := by decide
theorem all_H20 : fhall 20 H20 = [9] := by decide
theorem all_S20 : fhall 20 S20 = [] := by decide
def Y24 : List Nat := 70 :: S20.drop 1 ++ [1, 7, 2, 0]
theorem opts_Y24 : fhopts 24 Y24 = some [(1, []), (7, [])] := by decide
theorem fits_F20 : F20.fits := fun k hk => by
  unfold FourV.okAt
  match k, hk with
  | 0, _ => decide
  | 1, _ => decide
  | 2, _ => decide
  | 3, _ => decide
  | 4, _ => decide
  | 5, _ => decide
  | 6, _ => decide
  | 7, _ => decide
  | 8, _ => decide
theorem header_any (w : World) : Calls Try.prog 55 #[] w fun e w' => e = .returned (.slice (some ⟨w.heap.size, 0, none⟩) 20 20) ∧ Row w' (some ⟨w.heap.size, 0, none⟩) 20 H20 ∧ Below w.heap.size w w' := by
  go_enter Try.func55, Try.ntmps55
  go_wp2_with fail
  go_ret
  exact ⟨rfl, (Own.new w H20).row (by decide), (Below.refl _ _).alloc (Nat.le_refl _) _⟩
theorem l10_seal (A : Option Addr) (w : World) (h : Row w A 20 H20) : Calls Try.prog 25 #[.slice A 20 20] w fun e w' =>
    ∃ g c, e = .returned (.tuple #[.slice (some ⟨g, 0, none⟩) 20 c, .int .i64 0]) ∧ 20 ≤ c ∧ Row w' (some ⟨g, 0, none⟩) 20 S20 ∧ Below w.heap.size w w' := by
  refine (fhseal_ok A 20 20 H20 w (by decide) (by decide) h def_H20).mono ?_
  rintro e w' ⟨v, rfl, ho, hb⟩
  have e : fhseal H20 (4 * (H20.getD 0 0 % 16)) = S20 := seal_H20
  rw [e] at ho
  obtain ⟨g, c, rfl, _, h1, h2⟩ := ho.block (by decide)
  obtain ⟨A2, c2, e2, h3, h4, h5⟩ := ho.out (by decide)
  cases e2
  exact ⟨g, c, rfl, h1, h5, hb⟩
theorem l10_read (A : Option Addr) (c : Nat) (w : World) (hc : 20 ≤ c) (h : Row w A 20 S20) : Calls Try.prog 14 #[.slice A 20 c] w fun e w' => e = .returned (.tuple #[.agg F20.cells.toArray, .int .i64 0]) ∧ Below w.heap.size w w' := by
  refine (fhread_any A 20 c S20 w (by decide) hc h).mono ?_
  rintro e w' ⟨he, hb⟩
  have e1 : fhval 20 S20 = F20.cells := by unfold fhval; rw [if_pos def_S20]; exact cells_F20
  rw [def_S20, e1] at he
  exact ⟨he, hb⟩
theorem l10_short (g c : Nat) (w : World) (hc : 20 ≤ c) (h : Row w (some ⟨g, 0, none⟩) 20 S20) : Calls Try.prog 14 #[.slice (some ⟨g, 0, none⟩) 19 c] w fun e w' => e = .returned (.tuple #[.agg fhz.toArray, .int .i64 3]) ∧ Below w.heap.size w w' := by
  have hp := h.part 0 19 (by decide)
  refine (fhread_any (some ⟨g, 0, none⟩) 19 c ((S20.drop 0).take 19) w (by decide) (by omega) hp).mono ?_
  rintro e w' ⟨he, hb⟩
  exact ⟨he, hb⟩
theorem l10_write (w : World) : Calls Try.prog 23 #[.agg F20.cells.toArray, .slice none 0 0] w fun e w' =>
    ∃ A c, e = .returned (.tuple #[.slice A 20 c, .int .i64 0]) ∧ ByteVal w' (.slice A 20 c) S20 ∧ Below w.heap.size w w' := by
  refine (fhwrite_any F20 none 0 0 [] w rfl rfl (by decide) (by decide) (by decide) (Row.nil w none)).mono ?_
  rintro e w' ⟨hb, _, _, h⟩
  obtain ⟨v, rfl, ho⟩ := h fits_F20 (by decide)
  rw [bytes_F20] at ho
  obtain ⟨A, c, rfl, h1, _, h3⟩ := ho.out (by decide)
  exact ⟨A, c, rfl, ⟨A, c, rfl, h1, h3⟩, hb⟩
theorem l10_one (A : Option Addr) (w : World) (h : Row w A 20 H20) : Calls Try.prog 21 #[.slice A 20 20] w fun e w' =>
    ∃ b o c, e = .returned (.slice (some ⟨b, o, none⟩) 1 c) ∧ b < w'.heap.size ∧ w'.cell? ⟨b, o, none⟩ = some (.int .i64 9) ∧ Below w.heap.size w w' := by
  refine (fhall_any A 20 20 H20 w (by decide) (by decide) h).mono ?_
  rw [all_H20]
  rintro e w' ⟨v, rfl, ⟨A2, c, rfl, h1, h2⟩, hb⟩
  obtain ⟨b, o, rfl, hlt, hc⟩ := h2 0 9 rfl
  exact ⟨b, o, c, rfl, hlt, hc, hb⟩
theorem l10_none (A : Option Addr) (c : Nat) (w : World) (hc : 20 ≤ c) (h : Row w A 20 S20) : Calls Try.prog 21 #[.slice A 20 c] w fun e w' =>
    ∃ A2 c2, e = .returned (.slice A2 0 c2) ∧ Below w.heap.size w w' := by
  refine (fhall_any A 20 c S20 w hc (by decide) h).mono ?_
  rw [all_S20]
  rintro e w' ⟨v, rfl, ⟨A2, c, rfl, h1, h2⟩, hb⟩
  exact ⟨A2, c, rfl, hb⟩
theorem l10_nil (w : World) : Calls Try.prog 25 #[.slice none 0 0] w fun e w' => e = .returned (.tuple #[.slice none 0 0, .int .i64 3]) ∧ Below w.heap.size w w' :=
  fhseal_bad none 0 0 [] w (by decide) (Nat.le_refl _) (Row.nil w none) (by decide)
theorem l10_opts (A : Option Addr) (c : Nat) (w : World) (hc : 24 ≤ c) (h : Row w A 24 Y24) : Calls Try.prog 16 #[.slice A 24 c] w fun e w' =>
    ∃ b o c2, e = .returned (.tuple #[.slice (some ⟨b, o, none⟩) 2 c2, .bool true]) ∧ b < w'.heap.size ∧ w'.cell? ⟨b, o + 2, none⟩ = some (.int .i64 7) ∧ Below w.heap.size w w' := by
  refine (fhoptions_any A 24 c Y24 w hc (by decide) h).mono ?_
  rw [opts_Y24]
  rintro e w' ⟨hb, v, rfl, hE⟩
  obtain ⟨A2, c2, rfl, h1, h2⟩ := hE.read
  obtain ⟨b, o, bv, rfl, hlt, hc, _, _⟩ := h2 1 (7, []) rfl
  exact ⟨b, o, c2, rfl, hlt, hc, hb⟩
theorem cell_keep {w w' : World} {b o : Nat} {v : Value} (h : b < w.heap.size ∧ w.cell? ⟨b, o, none⟩ = some v) (hb : Below w.heap.size w w') : b < w'.heap.size ∧ w'.cell? ⟨b, o, none⟩ = some v :=
  ⟨Nat.lt_of_lt_of_le h.1 hb.size, (hb.cell (p := ⟨b, o, none⟩) h.1).trans h.2⟩
theorem len_Y24 : Y24.length = 24 := rfl
theorem eq4_dst (w : World) : (Op.equalIn 10000 23 (.agg #[.int .u8 10, .int .u8 0, .int .u8 0, .int .u8 2]) (.agg #[.int .u8 10, .int .u8 0, .int .u8 0, .int .u8 2])).run Try.prog w = .ok true w := by
  have k := key_a4 0 (a := 10) (b := 0) (c := 0) (e := 2) (by decide) (by decide) (by decide) (by decide)
  obtain ⟨r, hr, hi⟩ := run_equalIn_deep (P := Try.prog) 9990 10 23 (by kernel_rfl) w 2 2 (.agg #[.int .u8 10, .int .u8 0, .int .u8 0, .int .u8 2]) (.agg #[.int .u8 10, .int .u8 0, .int .u8 0, .int .u8 2]) _ _ (by kernel_rfl) (by kernel_rfl) k k
  rw [hi.2 rfl] at hr
  exact hr
set_option maxRecDepth 10000 in
set_option maxHeartbeats 3200000 in
theorem live10 (w : World) : Calls Try.prog 18 #[] w fun e w' => e = .returned (.bool true) ∧ Below w.heap.size w w' := by
  obtain ⟨X, hX⟩ : ∃ X, X = F20.cells := ⟨_, rfl⟩
  have hXl : X.length = 17 := by rw [hX]; rfl
  have hXo : ∀ v ∈ X, v.oneCell' = true := by rw [hX, ← cells_F20]; exact fhf_one S20
  obtain ⟨Z, hZ⟩ : ∃ Z, Z = fhz := ⟨_, rfl⟩
  have hZl : Z.length = 17 := by rw [hZ]; rfl
  have hZo : ∀ v ∈ Z, v.oneCell' = true := by rw [hZ]; exact fhz_one
  have CR := Lib.hid l10_read
  have CS := Lib.hid l10_short
  have CW := Lib.hid l10_write
  rw [← hX] at CR CW
  rw [← hZ] at CS
  have HX := Lib.hid hX
  clear hX hZ
  go_enter Try.func18, Try.ntmps18
  go_wp2_with fail
  refine (header_any _).mono ?_
  rintro e w1 ⟨rfl, r1, b1⟩
  have R1 := Lib.hid r1
  have B1 := Lib.hid b1
  clear r1 b1
  go_wp2_with fail
  refine (l10_seal _ _ R1.out).mono ?_
  rintro e w2 ⟨g, c, rfl, hc, r2, b2⟩
  have R2 := Lib.hid r2
  have B2 := Lib.hid (below_both B1.out b2)
  have HC := Lib.hid hc
  have cI : (19 : Int) ≤ (c : Int) := by omega
  have c1I : (1 : Int) ≤ (c : Int) := by omega
  have c1n : ¬ c = 1 := by omega
  clear r2 b2 B1 R1 hc
  go_wp2_with fail
  refine (CR.out _ _ _ HC.out R2.out).mono ?_
  rintro e w3 ⟨rfl, b3⟩
  obtain ⟨hst, hA, hb⟩ := four_stored w3 X hXl hXo
  have A3 := Lib.hid hA
  have B3 := Lib.hid (below_both (below_both B2.out b3) hb)
  have R3 := Lib.hid ((R2.out.below b3).below hb)
  clear hA hb b3 B2 R2
  go_upto_region 5 with fail
  clear hst
  obtain ⟨V, eV⟩ : ∃ V, V = (w3.alloc (.cells #[.int .i64 0, .int .i64 0, .int .i64 0, .int .i64 0, .int .i64 0, .int .i64 0, .int .i64 0, .int .i64 0, .int .i64 0, .int .u8 0, .int .u8 0, .int .u8 0, .int .u8 0, .int .u8 0, .int .u8 0, .int .u8 0, .int .u8 0] 25)).setCells w3.heap.size 0 X := ⟨_, rfl⟩
  rw [← eV] at A3 B3 R3 ⊢
  clear eV
  go_wp2_with fail
  refine (CS.out _ _ _ HC.out R3.out).mono ?_
  rintro e w4 ⟨rfl, b4⟩
  obtain ⟨hst, hA, hb⟩ := four_stored w4 Z hZl hZo
  have A5 := Lib.hid ((A3.out.below b4).below hb)
  have B5 := Lib.hid (below_both (below_both B3.out b4) hb)
  have R5 := Lib.hid ((R3.out.below b4).below hb)
  generalize w3.heap.size = gf at *
  clear hA hb b4 B3 R3 A3
  go_upto_region 6 with fail
  clear hst
  obtain ⟨V5, eV⟩ : ∃ V, V = (w4.alloc (.cells #[.int .i64 0, .int .i64 0, .int .i64 0, .int .i64 0, .int .i64 0, .int .i64 0, .int .i64 0, .int .i64 0, .int .i64 0, .int .u8 0, .int .u8 0, .int .u8 0, .int .u8 0, .int .u8 0, .int .u8 0, .int .u8 0, .int .u8 0] 25)).setCells w4.heap.size 0 Z := ⟨_, rfl⟩
  rw [← eV] at A5 B5 R5 ⊢
  clear eV
  refine wp_region_lit ?_
  go_wp2_with (refine wpList_load_v rfl 25 (.tmp 3) rfl _ rfl tyfour A5.out hXl ?_)
  refine (CW.out _).mono ?_
  rintro e w6 ⟨A6x, c6, rfl, v6, b6⟩
  have A6 := Lib.hid (A5.out.below b6)
  have B6 := Lib.hid (below_both B5.out b6)
  have R6 := Lib.hid (R5.out.below b6)
  have V6 := Lib.hid v6
  clear v6 b6 A5 B5 R5
  go_wp2_with fail
  refine (header_any _).mono ?_
  rintro e w7 ⟨rfl, r7, b7⟩
  have A7 := Lib.hid (A6.out.below b7)
  have B7 := Lib.hid (below_both B6.out b7)
  have R7 := Lib.hid (R6.out.below b7)
  have V7 := Lib.hid (V6.out.below b7)
  have H7 := Lib.hid r7
  clear b7 r7 A6 B6 R6 V6
  go_wp2_with fail
  refine (l10_one _ _ H7.out).mono ?_
  rintro e w8 ⟨b8, o8, c8, rfl, hlt8, hc8, bb8⟩
  have A8 := Lib.hid (A7.out.below bb8)
  have B8 := Lib.hid (below_both B7.out bb8)
  have R8 := Lib.hid (R7.out.below bb8)
  have V8 := Lib.hid (V7.out.below bb8)
  have D8 := Lib.hid (And.intro hlt8 hc8)
  clear bb8 hlt8 hc8 A7 B7 R7 V7 H7
  go_wp2_with fail
  refine (l10_nil _).mono ?_
  rintro e w9 ⟨rfl, b9⟩
  have A9 := Lib.hid (A8.out.below b9)
  have B9 := Lib.hid (below_both B8.out b9)
  have R9 := Lib.hid (R8.out.below b9)
  have V9 := Lib.hid (V8.out.below b9)
  have D9 := Lib.hid (cell_keep D8.out b9)
  clear b9 A8 B8 R8 V8 D8
  have O0 : Hid (OutIs w9.heap.size (w9.alloc (.cells #[.int .u8 70] 5)) (.slice (some ⟨w9.heap.size, 0, none⟩) 1 1) [70]) := OutIs.laid w9 [70] w9.heap.size (Nat.le_refl _) (by decide)
  have BB : Hid (Below w9.heap.size w9 (w9.alloc (.cells #[.int .u8 70] 5))) := (Below.refl _ _).alloc (Nat.le_refl _) _
  have RP : Hid (Row (w9.alloc (.cells #[.int .u8 70] 5)) (some ⟨g, 1, none⟩) 19 (S20.drop 1)) := (R9.out.below BB.out).part 1 19 (by decide)
  go_upto_region 10 with (at_builtin; refine wpList_append_row_any (B := w9.heap.size) (W := w9) rfl (.tmp 45) (.tmp 47) rfl rfl rfl rfl O0.out RP.out BB.out BB.out.size (by decide) ?_; intro v10 w10 ho10 hb10; have O10 := Lib.hid ho10; have B10 := Lib.hid hb10; clear ho10 hb10)
  have Z10 : Hid (w9.heap.size ≤ w10.heap.size) := B10.out.size
  go_upto_region 11 with (at_builtin; refine wpList_append_bytes (B := w9.heap.size) (W := w9) (wr := w10) (news := [1, 7, 2, 0]) rfl (.tmp 49) (.tmp 50) rfl _ 4 rfl rfl rfl rfl O10.out B10.out Z10.out (by decide) ?_; intro v11 w11 ho11 hb11; have ho12 : OutIs w9.heap.size w11 v11 Y24 := ho11; obtain ⟨A11, c11, rfl, h1, h2, h3⟩ := ho12.out (by decide); rw [len_Y24] at h1 h3 ⊢; have H11 := Lib.hid (And.intro h1 h3); have B11 := Lib.hid hb11; clear ho11 ho12 hb11 h1 h2 h3)
  have A11v := Lib.hid (A9.out.below B11.out)
  have B11v := Lib.hid (below_both B9.out B11.out)
  have R11 := Lib.hid (R9.out.below B11.out)
  have V11 := Lib.hid (V9.out.below B11.out)
  have D11 := Lib.hid (cell_keep D9.out B11.out)
  clear O0 BB RP O10 B10 Z10 A9 B9 R9 V9 D9
  go_wp2_with fail
  refine (l10_opts _ _ _ H11.out.1 H11.out.2).mono ?_
  rintro e w12 ⟨b12, o12, c12, rfl, hlt12, hc12, bb12⟩
  have A12 := A11v.out.below bb12
  have B12 := Lib.hid (below_both B11v.out bb12)
  have R12 := Lib.hid (R11.out.below bb12)
  have V12 := Lib.hid (V11.out.below bb12)
  have D12 := Lib.hid (cell_keep D11.out bb12)
  have E12 := Lib.hid (And.intro hlt12 hc12)
  have y : ∀ i, w12.cell? ⟨gf, i, none⟩ = F20.cells[i]? := fun i => by rw [A12.get i, HX.out]
  have y0 : w12.cell? ⟨gf, 0, none⟩ = some (.int .i64 5) := y 0
  have y1 : w12.cell? ⟨gf, 1, none⟩ = some (.int .i64 184) := y 1
  have y4 : w12.cell? ⟨gf, 4, none⟩ = some (.int .i64 1) := y 4
  have y7 : w12.cell? ⟨gf, 7, none⟩ = some (.int .i64 17) := y 7
  have y13 : w12.cell? ⟨gf, 13, none⟩ = some (.int .u8 10) := y 13
  have y14 : w12.cell? ⟨gf, 14, none⟩ = some (.int .u8 0) := y 14
  have y15 : w12.cell? ⟨gf, 15, none⟩ = some (.int .u8 0) := y 15
  have y16 : w12.cell? ⟨gf, 16, none⟩ = some (.int .u8 2) := y 16
  have hq := fun w => eq4_dst w
  clear bb12 hlt12 hc12 y A12 A11v B11v R11 V11 D11
  go_wp2_with fail
  refine (same_vals _ _ S20 _ (by decide) V12.out ⟨_, _, rfl, HC.out, R12.out⟩).mono ?_
  rintro e w13 ⟨rfl, b13⟩
  have B13 := Lib.hid (below_both B12.out b13)
  have R13 := Lib.hid (R12.out.below b13)
  have D13 := Lib.hid (cell_keep D12.out b13)
  have E13 := Lib.hid (cell_keep E12.out b13)
  clear b13 B12 R12 V12 D12 E12 y0 y1 y4 y7 y13 y14 y15 y16
  go_wp2_with fail
  refine (l10_none _ _ _ HC.out R13.out).mono ?_
  rintro e w14 ⟨A14, c14, rfl, b14⟩
  have B14 := Lib.hid (below_both B13.out b14)
  have d14 := (cell_keep D13.out b14).2
  have e14 := (cell_keep E13.out b14).2
  clear b14 B13 R13 D13 E13
  go_wp2_with fail
  go_ret
  exact ⟨rfl, B14.out⟩
end Go.Proofs.Yteldjcdoohafcaa
