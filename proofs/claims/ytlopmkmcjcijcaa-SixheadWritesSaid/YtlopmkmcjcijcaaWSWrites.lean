/-
  The walk of the statement SixheadWrites.
-/
import Derived.Test.YtlopmkmcjcijcaaSx5
import Derived.Test.YtlopmkmcjcijcaaSx6
import Derived.Test.YtlopmkmcjcijcaaSames
import Derived.Test.YtlopmkmcjcijcaaApp
namespace Go.Proofs.Ytlopmkmcjcijcaa
open Go.RowKit
set_option linter.unusedVariables false

set_option maxRecDepth 10000 in
set_option maxHeartbeats 6400000 in
theorem walk_SixheadWrites (f0 : SixV) (a1 : Option Addr) (len1 cap1 : Nat) (bs1 : List Nat) (w : World) (fs : f0.src.length = 16) (fd : f0.dst.length = 16) (fsb : ∀ x ∈ f0.src, x < 256) (fdb : ∀ x ∈ f0.dst, x < 256) (fk : ∀ j, -9223372036854775808 ≤ f0.k j ∧ f0.k j ≤ 9223372036854775807) (R1 : Row w a1 len1 bs1) (hl1 : len1 ≤ cap1) (hc1 : cap1 ≤ 140737488351232) :
    Calls Try.prog 8 #[.agg f0.cells.toArray, .slice a1 len1 cap1] w fun e w' => e = .returned (.bool true) ∧ Below w.heap.size w w' := by
  have hn : len1 ≤ 140737488355328 := by omega
  have CRB := Lib.hid (fun w hR => sxread_any a1 len1 cap1 bs1 w hn hl1 hR)
  unfold SxReadIs at CRB
  have CWX := Lib.hid (fun w => sxwrite_any f0 w fs fd fsb fdb fk)
  have CWY := Lib.hid (fun w => rsxwrite_any f0 w fs fd fsb fdb)
  obtain ⟨Xl, Xo⟩ := SixV.cells_all fs fd
  obtain ⟨Yl, Yo⟩ := sxval_all len1 bs1 R1.1
  have HEQ := Lib.hid (six_same fs fd fsb fdb fk)
  have HR1 := Lib.hid R1
  have HC1 := Lib.hid (And.intro hl1 hc1)
  obtain ⟨Y, hY⟩ : ∃ Y, Y = sxval len1 bs1 := ⟨_, rfl⟩
  rw [← hY] at CRB Yl Yo
  have HY := Lib.hid hY
  clear hY
  have HFX : Hid (f0.fitsTo 5 = true → ∀ (A : Option Addr) (c : Nat) (w : World), (f0.bytes ++ bs1).length ≤ c → Row w A (f0.bytes ++ bs1).length (f0.bytes ++ bs1) → Calls Try.prog 31 #[.slice A (f0.bytes ++ bs1).length c] w fun e w' => e = .returned (.tuple #[.agg f0.cells.toArray, .int .i64 0]) ∧ Below w.heap.size w w') := fun hf A c w h1 h2 => by
    obtain ⟨e1, e2, e3⟩ := sx_written hf fs fd R1.1
    rw [e1] at h1 h2 ⊢
    have h := sxread_any A (40 + len1) c (f0.bytes ++ bs1) w (by omega) h1 h2
    unfold SxReadIs at h
    rw [e2, e3] at h
    exact h
  have HFB : Hid (f0.bytes.length = 40 ∧ ∀ x ∈ f0.bytes, x < 256) := by
    refine ⟨by unfold SixV.bytes; rw [List.length_append, List.length_append, pb_length, fs, fd], fun z hz => ?_⟩
    unfold SixV.bytes at hz
    rcases List.mem_append.1 hz with h | h
    · rcases List.mem_append.1 h with h | h
      · exact pb_byte _ _ z h
      · exact fsb z h
    · exact fdb z h
  obtain ⟨X, hX⟩ : ∃ X, X = f0.cells := ⟨_, rfl⟩
  rw [← hX] at CWX CWY Xl Xo HEQ HFX ⊢
  obtain ⟨V0, eV⟩ : ∃ V, V = w.alloc (.cells X.toArray 51) := ⟨_, rfl⟩
  have HA : Hid (ArrV 51 V0 w.heap.size X) := by show ArrV _ _ _ _; rw [eV]; exact ArrV.new _ w X
  have HB : Hid (Below w.heap.size w V0) := by show Below _ _ _; rw [eV]; exact (Below.refl _ _).alloc (Nat.le_refl _) _
  have eVI := Lib.hid eV
  by_cases hf : f0.fitsTo 5 = true
  · rw [if_pos hf, if_pos hf] at CWX CWY
    obtain ⟨RL, hRL⟩ : ∃ RL, RL = f0.bytes := ⟨_, rfl⟩
    rw [← hRL] at CWX CWY HFX HFB
    have CRX := Lib.hid (HFX.out hf)
    have HRLL : Hid (RL.length = 40) := HFB.out.1
    have HRL : Hid (RL.length ≤ 9223372036854775807) := by show _ ≤ _; rw [HRLL.out]; decide
    unfold TwoTo at CWX CWY
    have HBY : Hid (∀ x ∈ RL ++ bs1, x < 256) := fun x hx => by
      rcases List.mem_append.1 hx with h | h
      · exact HFB.out.2 x h
      · exact R1.2.1 x h
    have HQ1 : Hid (([] : List Nat).length + 40 ≤ 140737488355328) := by show 0 + 40 ≤ _; decide
    have HQ2 : Hid (RL.length + len1 ≤ 140737488355328) := by show _ ≤ _; rw [HRLL.out]; omega
    obtain ⟨N, hN⟩ : ∃ N, N = (RL ++ bs1).length := ⟨_, rfl⟩
    rw [← hN] at CRX
    have HNN := Lib.hid hN
    by_cases hd : sxdef len1 bs1 = 0
    · clear hf hRL HFX HFB hn R1 hl1 hc1 fs fd fsb fdb fk hX eV hN
      rw [hd] at CRB
      obtain ⟨h40, _⟩ := sxdef_forty hd
      obtain ⟨k1, k2, k3, k4, k5⟩ := sixOf_ok HR1.out.1 HR1.out.2.1 h40
      obtain ⟨m1, m2⟩ := sx_rewritten HR1.out.1 HR1.out.2.1 hd
      obtain ⟨L, hL⟩ : ∃ L, L = bs1.take 40 := ⟨_, rfl⟩
      have hLl : L.length = 40 := by rw [hL, List.length_take, HR1.out.1]; exact Nat.min_eq_left h40
      have CWB : Hid (∀ w, Calls Try.prog 38 #[.agg Y.toArray] w (TwoTo w L 0)) := fun w => by
        have h := sxwrite_any (sixOf bs1) w k1 k2 k3 k4 k5
        rw [if_pos m1, if_pos m1, m2, ← hL] at h
        rw [HY.out, sixOf_val hd]
        exact h
      unfold TwoTo at CWB
      obtain ⟨b1, o1, hA1, _, _⟩ := HR1.out.addr (Nat.lt_of_lt_of_le (by decide) h40)
      subst hA1
      have HV40 : Hid (∀ W, Below w.heap.size w W → ByteVal W (.slice (some ⟨b1, o1, none⟩) 40 cap1) L) := fun W hW => by
        have h := (HR1.out.below hW).part 0 40 (by rw [Nat.zero_add]; exact h40)
        rw [List.drop_zero, ← hL] at h
        exact ⟨some ⟨b1, o1, none⟩, cap1, by rw [hLl], by rw [hLl]; exact Nat.le_trans h40 HC1.out.1, by rw [hLl]; exact h⟩
      have HLL : Hid (L.length ≤ 9223372036854775807) := by show _ ≤ _; rw [hLl]; decide
      have n40 : ¬ (len1 : Int) < 40 := by omega
      have i40 : (40 : Int) ≤ (cap1 : Int) := by have := HC1.out.1; omega
      clear hd h40 k1 k2 k3 k4 k5 m1 m2 hL hLl
      go_enter Try.func8, Try.ntmps8
      go_upto_region 1 with fail
      rw [← eVI.out]
      refine wp_region_lit ?_
      go_wp2_with (first | refine wpList_load_v rfl 51 (.tmp 2) rfl _ rfl tysix HA.out Xl ?_ | fail)
      refine (CWX.out _).mono ?_
      rintro e w1 ⟨v1, rfl, r1, b1⟩
      have A1 := Lib.hid (HA.out.below b1)
      have B1 := Lib.hid (below_both HB.out b1)
      have R1 := Lib.hid r1
      clear b1 r1
      go_upto_region 2 with fail
      refine wp_region_lit ?_
      go_wp2_with (first | refine wpList_load_v rfl 51 (.tmp 2) rfl _ rfl tysix A1.out Xl ?_ | fail)
      refine (CWY.out _).mono ?_
      rintro e w2 ⟨v2, rfl, r2, b2⟩
      have A2 := Lib.hid (A1.out.below b2)
      have B2 := Lib.hid (below_both B1.out b2)
      have R1 := Lib.hid (R1.out.below b2)
      have R2 := Lib.hid r2
      clear b2 r2 A1 B1
      obtain ⟨Ax, cx, ev, hcx, hrx⟩ := R1.out
      subst ev
      have HCX := Lib.hid hcx
      have RX := Lib.hid hrx
      rw [HRLL.out] at HCX RX ⊢
      clear hcx hrx R1
      go_wp2_with fail
      refine (same_vals _ _ RL _ HRL.out ⟨Ax, cx, by rw [HRLL.out], by rw [HRLL.out]; exact HCX.out, by rw [HRLL.out]; exact RX.out⟩ R2.out).mono ?_
      rintro e w3 ⟨rfl, b3⟩
      have A3 := Lib.hid (A2.out.below b3)
      have B3 := Lib.hid (below_both B2.out b3)
      have RX := Lib.hid (RX.out.below b3)
      clear b3 A2 B2 R2
      have O0 : Hid (OutIs w3.heap.size (w3.alloc (.cells #[] 5)) (.slice (some ⟨w3.heap.size, 0, none⟩) 0 0) []) := OutIs.laid w3 [] w3.heap.size (Nat.le_refl _) (by decide)
      have Q5 : Hid (Below w3.heap.size w3 (w3.alloc (.cells #[] 5))) := (Below.refl _ _).alloc (Nat.le_refl _) _
      have RA := Lib.hid (RX.out.below Q5.out)
      go_upto_region 6 with fail
      refine wp_region_lit ?_
      go_wp2_with (first
        | (at_builtin; refine wpList_append_row_any (B := w3.heap.size) (W := w3) rfl (.tmp 37) (.tmp 38) rfl rfl rfl rfl O0.out RA.out Q5.out Q5.out.size HQ1.out ?_; intro v6 w6 ho6 hb6; rw [List.nil_append] at ho6; have O6 := Lib.hid ho6; have Q6 := Lib.hid hb6; have RB := Lib.hid ((HR1.out.below B3.out).below hb6); have Z6 : Hid (w3.heap.size ≤ w6.heap.size) := hb6.size; clear ho6 hb6)
        | (at_builtin; refine wpList_append_row_any (B := w3.heap.size) (W := w3) rfl (.tmp 39) (.tmp 40) rfl rfl rfl rfl O6.out RB.out Q6.out Z6.out HQ2.out ?_; intro v7 w7 ho7 hb7; obtain ⟨A7, c7, rfl, h1, h2, h3⟩ := ho7.out HBY.out; rw [← HNN.out] at h1 h3 ⊢; have H7 := Lib.hid h1; have R7 := Lib.hid h3; have B7 := Lib.hid hb7; clear ho7 hb7 h1 h2 h3)
        | fail)
      refine (CRX.out _ _ _ H7.out R7.out).mono ?_
      rintro e w8 ⟨rfl, b8⟩
      have b38 := below_both B7.out b8
      obtain ⟨hst, hA, hb⟩ := six_stored w8 X Xl Xo
      go_upto_region 7 with fail
      clear hst
      obtain ⟨V8, eV⟩ : ∃ V, V = (w8.alloc (.cells (Value.int .i64 0 :: Value.int .i64 0 :: Value.int .i64 0 :: Value.int .i64 0 :: Value.int .i64 0 :: Value.int .u8 0 :: Value.int .u8 0 :: Value.int .u8 0 :: Value.int .u8 0 :: Value.int .u8 0 :: Value.int .u8 0 :: Value.int .u8 0 :: Value.int .u8 0 :: Value.int .u8 0 :: Value.int .u8 0 :: Value.int .u8 0 :: Value.int .u8 0 :: Value.int .u8 0 :: Value.int .u8 0 :: Value.int .u8 0 :: Value.int .u8 0 :: Value.int .u8 0 :: Value.int .u8 0 :: Value.int .u8 0 :: Value.int .u8 0 :: Value.int .u8 0 :: Value.int .u8 0 :: Value.int .u8 0 :: Value.int .u8 0 :: Value.int .u8 0 :: Value.int .u8 0 :: Value.int .u8 0 :: Value.int .u8 0 :: Value.int .u8 0 :: Value.int .u8 0 :: Value.int .u8 0 :: Value.int .u8 0 :: [] : List Value).toArray 51)).setCells w8.heap.size 0 X := ⟨_, rfl⟩
      obtain ⟨hA2, hb2⟩ := six_world w8 X V8 eV hA hb
      have hbb := below_both b38 hb2
      have AV8 := Lib.hid hA2
      have A3 := Lib.hid (A3.out.below hbb)
      rw [← eV]
      obtain ⟨g8, hg⟩ : ∃ g, g = w8.heap.size := ⟨_, rfl⟩
      rw [← hg] at AV8 ⊢
      clear eV hA hb hA2 hb2 hg
      have BT := Lib.hid (below_both B3.out hbb)
      clear hbb b8 b38 B3 B7 R7 H7 RX HCX RB Q6 Z6 O6 RA Q5 O0
      have heq := HEQ.out
      refine wp_region_lit ?_
      go_upto_region 9 with (first | refine wpList_load_v rfl 51 (.tmp 9) rfl _ rfl tysix AV8.out Xl ?_ | refine wpList_load_v rfl 51 (.tmp 2) rfl _ rfl tysix A3.out Xl ?_ | fail)
      clear heq A3 AV8
      go_wp2_with fail
      refine (CRB.out _ (HR1.out.below BT.out)).mono ?_
      rintro e w21 ⟨rfl, b21⟩
      obtain ⟨hst, hA, hb⟩ := six_stored w21 Y Yl Yo
      go_upto_region 10 with fail
      clear hst
      obtain ⟨V21, eV⟩ : ∃ V, V = (w21.alloc (.cells (Value.int .i64 0 :: Value.int .i64 0 :: Value.int .i64 0 :: Value.int .i64 0 :: Value.int .i64 0 :: Value.int .u8 0 :: Value.int .u8 0 :: Value.int .u8 0 :: Value.int .u8 0 :: Value.int .u8 0 :: Value.int .u8 0 :: Value.int .u8 0 :: Value.int .u8 0 :: Value.int .u8 0 :: Value.int .u8 0 :: Value.int .u8 0 :: Value.int .u8 0 :: Value.int .u8 0 :: Value.int .u8 0 :: Value.int .u8 0 :: Value.int .u8 0 :: Value.int .u8 0 :: Value.int .u8 0 :: Value.int .u8 0 :: Value.int .u8 0 :: Value.int .u8 0 :: Value.int .u8 0 :: Value.int .u8 0 :: Value.int .u8 0 :: Value.int .u8 0 :: Value.int .u8 0 :: Value.int .u8 0 :: Value.int .u8 0 :: Value.int .u8 0 :: Value.int .u8 0 :: Value.int .u8 0 :: Value.int .u8 0 :: [] : List Value).toArray 51)).setCells w21.heap.size 0 Y := ⟨_, rfl⟩
      obtain ⟨hA2, hb2⟩ := six_world w21 Y V21 eV hA hb
      have hbb := below_both b21 hb2
      have AV21 := Lib.hid hA2
      rw [← eV]
      obtain ⟨g21, hg⟩ : ∃ g, g = w21.heap.size := ⟨_, rfl⟩
      rw [← hg] at AV21 ⊢
      clear eV hA hb hA2 hb2 hg
      have B21 := Lib.hid (below_both BT.out hbb)
      clear hbb b21 BT
      go_upto_region 14 with fail
      refine wp_region_lit ?_
      go_wp2_with (first | refine wpList_load_v rfl 51 (.tmp 11) rfl _ rfl tysix AV21.out Yl ?_ | fail)
      refine (CWB.out _).mono ?_
      rintro e w22 ⟨v22, rfl, r22, b22⟩
      have B22 := Lib.hid (below_both B21.out b22)
      have R22 := Lib.hid r22
      clear b22 r22 B21
      go_wp2_with fail
      refine (live12 _).mono ?_
      rintro e w23 ⟨rfl, b23⟩
      have B23 := Lib.hid (below_both B22.out b23)
      have R23 := Lib.hid (R22.out.below b23)
      clear b23 B22 R22
      go_wp2_with fail
      refine (same_vals _ _ L _ HLL.out R23.out (HV40.out _ B23.out)).mono ?_
      rintro e w24 ⟨rfl, b24⟩
      have B24 := Lib.hid (below_both B23.out b24)
      clear b24 B23 R23
      go_wp2_with fail
      go_ret
      exact ⟨rfl, B24.out⟩
    · clear hf hRL HFX HFB hn R1 hl1 hc1 fs fd fsb fdb fk hX eV hN
      obtain ⟨d, hdd⟩ : ∃ d, d = sxdef len1 bs1 := ⟨_, rfl⟩
      rw [← hdd] at CRB hd
      have d0 : ((d : Int) != 0) = true := bne_iff_ne.2 (by omega)
      clear hd hdd
      go_enter Try.func8, Try.ntmps8
      go_upto_region 1 with fail
      rw [← eVI.out]
      refine wp_region_lit ?_
      go_wp2_with (first | refine wpList_load_v rfl 51 (.tmp 2) rfl _ rfl tysix HA.out Xl ?_ | fail)
      refine (CWX.out _).mono ?_
      rintro e w1 ⟨v1, rfl, r1, b1⟩
      have A1 := Lib.hid (HA.out.below b1)
      have B1 := Lib.hid (below_both HB.out b1)
      have R1 := Lib.hid r1
      clear b1 r1
      go_upto_region 2 with fail
      refine wp_region_lit ?_
      go_wp2_with (first | refine wpList_load_v rfl 51 (.tmp 2) rfl _ rfl tysix A1.out Xl ?_ | fail)
      refine (CWY.out _).mono ?_
      rintro e w2 ⟨v2, rfl, r2, b2⟩
      have A2 := Lib.hid (A1.out.below b2)
      have B2 := Lib.hid (below_both B1.out b2)
      have R1 := Lib.hid (R1.out.below b2)
      have R2 := Lib.hid r2
      clear b2 r2 A1 B1
      obtain ⟨Ax, cx, ev, hcx, hrx⟩ := R1.out
      subst ev
      have HCX := Lib.hid hcx
      have RX := Lib.hid hrx
      rw [HRLL.out] at HCX RX ⊢
      clear hcx hrx R1
      go_wp2_with fail
      refine (same_vals _ _ RL _ HRL.out ⟨Ax, cx, by rw [HRLL.out], by rw [HRLL.out]; exact HCX.out, by rw [HRLL.out]; exact RX.out⟩ R2.out).mono ?_
      rintro e w3 ⟨rfl, b3⟩
      have A3 := Lib.hid (A2.out.below b3)
      have B3 := Lib.hid (below_both B2.out b3)
      have RX := Lib.hid (RX.out.below b3)
      clear b3 A2 B2 R2
      have O0 : Hid (OutIs w3.heap.size (w3.alloc (.cells #[] 5)) (.slice (some ⟨w3.heap.size, 0, none⟩) 0 0) []) := OutIs.laid w3 [] w3.heap.size (Nat.le_refl _) (by decide)
      have Q5 : Hid (Below w3.heap.size w3 (w3.alloc (.cells #[] 5))) := (Below.refl _ _).alloc (Nat.le_refl _) _
      have RA := Lib.hid (RX.out.below Q5.out)
      go_upto_region 6 with fail
      refine wp_region_lit ?_
      go_wp2_with (first
        | (at_builtin; refine wpList_append_row_any (B := w3.heap.size) (W := w3) rfl (.tmp 37) (.tmp 38) rfl rfl rfl rfl O0.out RA.out Q5.out Q5.out.size HQ1.out ?_; intro v6 w6 ho6 hb6; rw [List.nil_append] at ho6; have O6 := Lib.hid ho6; have Q6 := Lib.hid hb6; have RB := Lib.hid ((HR1.out.below B3.out).below hb6); have Z6 : Hid (w3.heap.size ≤ w6.heap.size) := hb6.size; clear ho6 hb6)
        | (at_builtin; refine wpList_append_row_any (B := w3.heap.size) (W := w3) rfl (.tmp 39) (.tmp 40) rfl rfl rfl rfl O6.out RB.out Q6.out Z6.out HQ2.out ?_; intro v7 w7 ho7 hb7; obtain ⟨A7, c7, rfl, h1, h2, h3⟩ := ho7.out HBY.out; rw [← HNN.out] at h1 h3 ⊢; have H7 := Lib.hid h1; have R7 := Lib.hid h3; have B7 := Lib.hid hb7; clear ho7 hb7 h1 h2 h3)
        | fail)
      refine (CRX.out _ _ _ H7.out R7.out).mono ?_
      rintro e w8 ⟨rfl, b8⟩
      have b38 := below_both B7.out b8
      obtain ⟨hst, hA, hb⟩ := six_stored w8 X Xl Xo
      go_upto_region 7 with fail
      clear hst
      obtain ⟨V8, eV⟩ : ∃ V, V = (w8.alloc (.cells (Value.int .i64 0 :: Value.int .i64 0 :: Value.int .i64 0 :: Value.int .i64 0 :: Value.int .i64 0 :: Value.int .u8 0 :: Value.int .u8 0 :: Value.int .u8 0 :: Value.int .u8 0 :: Value.int .u8 0 :: Value.int .u8 0 :: Value.int .u8 0 :: Value.int .u8 0 :: Value.int .u8 0 :: Value.int .u8 0 :: Value.int .u8 0 :: Value.int .u8 0 :: Value.int .u8 0 :: Value.int .u8 0 :: Value.int .u8 0 :: Value.int .u8 0 :: Value.int .u8 0 :: Value.int .u8 0 :: Value.int .u8 0 :: Value.int .u8 0 :: Value.int .u8 0 :: Value.int .u8 0 :: Value.int .u8 0 :: Value.int .u8 0 :: Value.int .u8 0 :: Value.int .u8 0 :: Value.int .u8 0 :: Value.int .u8 0 :: Value.int .u8 0 :: Value.int .u8 0 :: Value.int .u8 0 :: Value.int .u8 0 :: [] : List Value).toArray 51)).setCells w8.heap.size 0 X := ⟨_, rfl⟩
      obtain ⟨hA2, hb2⟩ := six_world w8 X V8 eV hA hb
      have hbb := below_both b38 hb2
      have AV8 := Lib.hid hA2
      have A3 := Lib.hid (A3.out.below hbb)
      rw [← eV]
      obtain ⟨g8, hg⟩ : ∃ g, g = w8.heap.size := ⟨_, rfl⟩
      rw [← hg] at AV8 ⊢
      clear eV hA hb hA2 hb2 hg
      have BT := Lib.hid (below_both B3.out hbb)
      clear hbb b8 b38 B3 B7 R7 H7 RX HCX RB Q6 Z6 O6 RA Q5 O0
      have heq := HEQ.out
      refine wp_region_lit ?_
      go_upto_region 9 with (first | refine wpList_load_v rfl 51 (.tmp 9) rfl _ rfl tysix AV8.out Xl ?_ | refine wpList_load_v rfl 51 (.tmp 2) rfl _ rfl tysix A3.out Xl ?_ | fail)
      clear heq A3 AV8
      go_wp2_with fail
      refine (CRB.out _ (HR1.out.below BT.out)).mono ?_
      rintro e w21 ⟨rfl, b21⟩
      obtain ⟨hst, hA, hb⟩ := six_stored w21 Y Yl Yo
      go_upto_region 10 with fail
      clear hst
      obtain ⟨V21, eV⟩ : ∃ V, V = (w21.alloc (.cells (Value.int .i64 0 :: Value.int .i64 0 :: Value.int .i64 0 :: Value.int .i64 0 :: Value.int .i64 0 :: Value.int .u8 0 :: Value.int .u8 0 :: Value.int .u8 0 :: Value.int .u8 0 :: Value.int .u8 0 :: Value.int .u8 0 :: Value.int .u8 0 :: Value.int .u8 0 :: Value.int .u8 0 :: Value.int .u8 0 :: Value.int .u8 0 :: Value.int .u8 0 :: Value.int .u8 0 :: Value.int .u8 0 :: Value.int .u8 0 :: Value.int .u8 0 :: Value.int .u8 0 :: Value.int .u8 0 :: Value.int .u8 0 :: Value.int .u8 0 :: Value.int .u8 0 :: Value.int .u8 0 :: Value.int .u8 0 :: Value.int .u8 0 :: Value.int .u8 0 :: Value.int .u8 0 :: Value.int .u8 0 :: Value.int .u8 0 :: Value.int .u8 0 :: Value.int .u8 0 :: Value.int .u8 0 :: Value.int .u8 0 :: [] : List Value).toArray 51)).setCells w21.heap.size 0 Y := ⟨_, rfl⟩
      obtain ⟨hA2, hb2⟩ := six_world w21 Y V21 eV hA hb
      have hbb := below_both b21 hb2
      have AV21 := Lib.hid hA2
      rw [← eV]
      obtain ⟨g21, hg⟩ : ∃ g, g = w21.heap.size := ⟨_, rfl⟩
      rw [← hg] at AV21 ⊢
      clear eV hA hb hA2 hb2 hg
      have B21 := Lib.hid (below_both BT.out hbb)
      clear hbb b21 BT
      go_wp2_with fail
      refine (live12 _).mono ?_
      rintro e w22 ⟨rfl, b22⟩
      have B22 := Lib.hid (below_both B21.out b22)
      clear b22 B21
      go_wp2_with fail
      go_ret
      exact ⟨rfl, B22.out⟩
  · rw [if_neg hf, if_neg hf] at CWX CWY
    obtain ⟨RL, hRL⟩ : ∃ RL, RL = ([] : List Nat) := ⟨_, rfl⟩
    rw [← hRL] at CWX CWY
    have HRL : Hid (RL.length ≤ 9223372036854775807) := by show _ ≤ _; rw [hRL]; decide
    unfold TwoTo at CWX CWY
    by_cases hd : sxdef len1 bs1 = 0
    · clear hf hRL HFX HFB hn R1 hl1 hc1 fs fd fsb fdb fk hX eV
      rw [hd] at CRB
      obtain ⟨h40, _⟩ := sxdef_forty hd
      obtain ⟨k1, k2, k3, k4, k5⟩ := sixOf_ok HR1.out.1 HR1.out.2.1 h40
      obtain ⟨m1, m2⟩ := sx_rewritten HR1.out.1 HR1.out.2.1 hd
      obtain ⟨L, hL⟩ : ∃ L, L = bs1.take 40 := ⟨_, rfl⟩
      have hLl : L.length = 40 := by rw [hL, List.length_take, HR1.out.1]; exact Nat.min_eq_left h40
      have CWB : Hid (∀ w, Calls Try.prog 38 #[.agg Y.toArray] w (TwoTo w L 0)) := fun w => by
        have h := sxwrite_any (sixOf bs1) w k1 k2 k3 k4 k5
        rw [if_pos m1, if_pos m1, m2, ← hL] at h
        rw [HY.out, sixOf_val hd]
        exact h
      unfold TwoTo at CWB
      obtain ⟨b1, o1, hA1, _, _⟩ := HR1.out.addr (Nat.lt_of_lt_of_le (by decide) h40)
      subst hA1
      have HV40 : Hid (∀ W, Below w.heap.size w W → ByteVal W (.slice (some ⟨b1, o1, none⟩) 40 cap1) L) := fun W hW => by
        have h := (HR1.out.below hW).part 0 40 (by rw [Nat.zero_add]; exact h40)
        rw [List.drop_zero, ← hL] at h
        exact ⟨some ⟨b1, o1, none⟩, cap1, by rw [hLl], by rw [hLl]; exact Nat.le_trans h40 HC1.out.1, by rw [hLl]; exact h⟩
      have HLL : Hid (L.length ≤ 9223372036854775807) := by show _ ≤ _; rw [hLl]; decide
      have n40 : ¬ (len1 : Int) < 40 := by omega
      have i40 : (40 : Int) ≤ (cap1 : Int) := by have := HC1.out.1; omega
      clear hd h40 k1 k2 k3 k4 k5 m1 m2 hL hLl
      go_enter Try.func8, Try.ntmps8
      go_upto_region 1 with fail
      rw [← eVI.out]
      refine wp_region_lit ?_
      go_wp2_with (first | refine wpList_load_v rfl 51 (.tmp 2) rfl _ rfl tysix HA.out Xl ?_ | fail)
      refine (CWX.out _).mono ?_
      rintro e w1 ⟨v1, rfl, r1, b1⟩
      have A1 := Lib.hid (HA.out.below b1)
      have B1 := Lib.hid (below_both HB.out b1)
      have R1 := Lib.hid r1
      clear b1 r1
      go_upto_region 2 with fail
      refine wp_region_lit ?_
      go_wp2_with (first | refine wpList_load_v rfl 51 (.tmp 2) rfl _ rfl tysix A1.out Xl ?_ | fail)
      refine (CWY.out _).mono ?_
      rintro e w2 ⟨v2, rfl, r2, b2⟩
      have A2 := Lib.hid (A1.out.below b2)
      have B2 := Lib.hid (below_both B1.out b2)
      have R1 := Lib.hid (R1.out.below b2)
      have R2 := Lib.hid r2
      clear b2 r2 A1 B1
      go_wp2_with fail
      refine (same_vals _ _ RL _ HRL.out R1.out R2.out).mono ?_
      rintro e w3 ⟨rfl, b3⟩
      have BT := Lib.hid (below_both B2.out b3)
      clear b3 A2 B2 R2 R1
      go_wp2_with fail
      refine (CRB.out _ (HR1.out.below BT.out)).mono ?_
      rintro e w21 ⟨rfl, b21⟩
      obtain ⟨hst, hA, hb⟩ := six_stored w21 Y Yl Yo
      go_upto_region 10 with fail
      clear hst
      obtain ⟨V21, eV⟩ : ∃ V, V = (w21.alloc (.cells (Value.int .i64 0 :: Value.int .i64 0 :: Value.int .i64 0 :: Value.int .i64 0 :: Value.int .i64 0 :: Value.int .u8 0 :: Value.int .u8 0 :: Value.int .u8 0 :: Value.int .u8 0 :: Value.int .u8 0 :: Value.int .u8 0 :: Value.int .u8 0 :: Value.int .u8 0 :: Value.int .u8 0 :: Value.int .u8 0 :: Value.int .u8 0 :: Value.int .u8 0 :: Value.int .u8 0 :: Value.int .u8 0 :: Value.int .u8 0 :: Value.int .u8 0 :: Value.int .u8 0 :: Value.int .u8 0 :: Value.int .u8 0 :: Value.int .u8 0 :: Value.int .u8 0 :: Value.int .u8 0 :: Value.int .u8 0 :: Value.int .u8 0 :: Value.int .u8 0 :: Value.int .u8 0 :: Value.int .u8 0 :: Value.int .u8 0 :: Value.int .u8 0 :: Value.int .u8 0 :: Value.int .u8 0 :: Value.int .u8 0 :: [] : List Value).toArray 51)).setCells w21.heap.size 0 Y := ⟨_, rfl⟩
      obtain ⟨hA2, hb2⟩ := six_world w21 Y V21 eV hA hb
      have hbb := below_both b21 hb2
      have AV21 := Lib.hid hA2
      rw [← eV]
      obtain ⟨g21, hg⟩ : ∃ g, g = w21.heap.size := ⟨_, rfl⟩
      rw [← hg] at AV21 ⊢
      clear eV hA hb hA2 hb2 hg
      have B21 := Lib.hid (below_both BT.out hbb)
      clear hbb b21 BT
      go_upto_region 14 with fail
      refine wp_region_lit ?_
      go_wp2_with (first | refine wpList_load_v rfl 51 (.tmp 11) rfl _ rfl tysix AV21.out Yl ?_ | fail)
      refine (CWB.out _).mono ?_
      rintro e w22 ⟨v22, rfl, r22, b22⟩
      have B22 := Lib.hid (below_both B21.out b22)
      have R22 := Lib.hid r22
      clear b22 r22 B21
      go_wp2_with fail
      refine (live12 _).mono ?_
      rintro e w23 ⟨rfl, b23⟩
      have B23 := Lib.hid (below_both B22.out b23)
      have R23 := Lib.hid (R22.out.below b23)
      clear b23 B22 R22
      go_wp2_with fail
      refine (same_vals _ _ L _ HLL.out R23.out (HV40.out _ B23.out)).mono ?_
      rintro e w24 ⟨rfl, b24⟩
      have B24 := Lib.hid (below_both B23.out b24)
      clear b24 B23 R23
      go_wp2_with fail
      go_ret
      exact ⟨rfl, B24.out⟩
    · clear hf hRL HFX HFB hn R1 hl1 hc1 fs fd fsb fdb fk hX eV
      obtain ⟨d, hdd⟩ : ∃ d, d = sxdef len1 bs1 := ⟨_, rfl⟩
      rw [← hdd] at CRB hd
      have d0 : ((d : Int) != 0) = true := bne_iff_ne.2 (by omega)
      clear hd hdd
      go_enter Try.func8, Try.ntmps8
      go_upto_region 1 with fail
      rw [← eVI.out]
      refine wp_region_lit ?_
      go_wp2_with (first | refine wpList_load_v rfl 51 (.tmp 2) rfl _ rfl tysix HA.out Xl ?_ | fail)
      refine (CWX.out _).mono ?_
      rintro e w1 ⟨v1, rfl, r1, b1⟩
      have A1 := Lib.hid (HA.out.below b1)
      have B1 := Lib.hid (below_both HB.out b1)
      have R1 := Lib.hid r1
      clear b1 r1
      go_upto_region 2 with fail
      refine wp_region_lit ?_
      go_wp2_with (first | refine wpList_load_v rfl 51 (.tmp 2) rfl _ rfl tysix A1.out Xl ?_ | fail)
      refine (CWY.out _).mono ?_
      rintro e w2 ⟨v2, rfl, r2, b2⟩
      have A2 := Lib.hid (A1.out.below b2)
      have B2 := Lib.hid (below_both B1.out b2)
      have R1 := Lib.hid (R1.out.below b2)
      have R2 := Lib.hid r2
      clear b2 r2 A1 B1
      go_wp2_with fail
      refine (same_vals _ _ RL _ HRL.out R1.out R2.out).mono ?_
      rintro e w3 ⟨rfl, b3⟩
      have BT := Lib.hid (below_both B2.out b3)
      clear b3 A2 B2 R2 R1
      go_wp2_with fail
      refine (CRB.out _ (HR1.out.below BT.out)).mono ?_
      rintro e w21 ⟨rfl, b21⟩
      obtain ⟨hst, hA, hb⟩ := six_stored w21 Y Yl Yo
      go_upto_region 10 with fail
      clear hst
      obtain ⟨V21, eV⟩ : ∃ V, V = (w21.alloc (.cells (Value.int .i64 0 :: Value.int .i64 0 :: Value.int .i64 0 :: Value.int .i64 0 :: Value.int .i64 0 :: Value.int .u8 0 :: Value.int .u8 0 :: Value.int .u8 0 :: Value.int .u8 0 :: Value.int .u8 0 :: Value.int .u8 0 :: Value.int .u8 0 :: Value.int .u8 0 :: Value.int .u8 0 :: Value.int .u8 0 :: Value.int .u8 0 :: Value.int .u8 0 :: Value.int .u8 0 :: Value.int .u8 0 :: Value.int .u8 0 :: Value.int .u8 0 :: Value.int .u8 0 :: Value.int .u8 0 :: Value.int .u8 0 :: Value.int .u8 0 :: Value.int .u8 0 :: Value.int .u8 0 :: Value.int .u8 0 :: Value.int .u8 0 :: Value.int .u8 0 :: Value.int .u8 0 :: Value.int .u8 0 :: Value.int .u8 0 :: Value.int .u8 0 :: Value.int .u8 0 :: Value.int .u8 0 :: Value.int .u8 0 :: [] : List Value).toArray 51)).setCells w21.heap.size 0 Y := ⟨_, rfl⟩
      obtain ⟨hA2, hb2⟩ := six_world w21 Y V21 eV hA hb
      have hbb := below_both b21 hb2
      have AV21 := Lib.hid hA2
      rw [← eV]
      obtain ⟨g21, hg⟩ : ∃ g, g = w21.heap.size := ⟨_, rfl⟩
      rw [← hg] at AV21 ⊢
      clear eV hA hb hA2 hb2 hg
      have B21 := Lib.hid (below_both BT.out hbb)
      clear hbb b21 BT
      go_wp2_with fail
      refine (live12 _).mono ?_
      rintro e w22 ⟨rfl, b22⟩
      have B22 := Lib.hid (below_both B21.out b22)
      clear b22 B21
      go_wp2_with fail
      go_ret
      exact ⟨rfl, B22.out⟩
end Go.Proofs.Ytlopmkmcjcijcaa
