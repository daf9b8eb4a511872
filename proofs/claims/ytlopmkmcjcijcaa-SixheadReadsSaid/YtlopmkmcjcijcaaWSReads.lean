/-
  The walk of the statement SixheadReads.
-/
import Derived.Test.YtlopmkmcjcijcaaSx5
import Derived.Test.YtlopmkmcjcijcaaSx6
import Derived.Test.YtlopmkmcjcijcaaSames
namespace Go.Proofs.Ytlopmkmcjcijcaa
open Go.RowKit
set_option linter.unusedVariables false

set_option maxRecDepth 10000 in
set_option maxHeartbeats 6400000 in
theorem walk_SixheadReads (a0 : Option Addr) (len0 cap0 : Nat) (bs0 : List Nat) (w : World) (R0 : Row w a0 len0 bs0) (hl0 : len0 ≤ cap0) (hc0 : cap0 ≤ 140737488351232) :
    Calls Try.prog 7 #[.slice a0 len0 cap0] w fun e w' => e = .returned (.bool true) ∧ Below w.heap.size w w' := by
  have hn : len0 ≤ 140737488355328 := by omega
  have CR := Lib.hid (fun w hR => sxread_any a0 len0 cap0 bs0 w hn hl0 hR)
  have CS := Lib.hid (fun w hR => rsxread_any a0 len0 cap0 bs0 w hn hl0 hR)
  unfold SxReadIs at CR CS
  have CT := Lib.hid (fun w hR => sxrest_any a0 len0 cap0 bs0 w hn hl0 hR)
  have CU := Lib.hid (fun w hR => rsxrest_any a0 len0 cap0 bs0 w hn hl0 hR)
  unfold SxRestIs at CT CU
  have CA := Lib.hid (fun w hR => sxall_any a0 len0 cap0 bs0 w hn hl0 hR)
  have CB := Lib.hid (fun w hR => rsxall_any a0 len0 cap0 bs0 w hn hl0 hR)
  unfold SxAllIs at CA CB
  have HEQ := Lib.hid (sxval_same (n := len0) (bs := bs0) R0.1 R0.2.1)
  have HQ : Hid (((sxrest len0 bs0).getD []).length ≤ 9223372036854775807) := Nat.le_trans sxrest_small (by decide)
  have HL := Lib.hid (sxall_len len0 bs0)
  obtain ⟨Xl, Xo⟩ := sxval_all len0 bs0 R0.1
  obtain ⟨X, hX⟩ : ∃ X, X = sxval len0 bs0 := ⟨_, rfl⟩
  obtain ⟨d, hdd⟩ : ∃ d, d = sxdef len0 bs0 := ⟨_, rfl⟩
  rw [← hX] at HEQ Xl Xo
  rw [← hX, ← hdd] at CR CS
  obtain ⟨r, hr⟩ : ∃ r, r = (sxrest len0 bs0).getD [] := ⟨_, rfl⟩
  obtain ⟨ob, hob⟩ : ∃ ob, ob = (sxrest len0 bs0).isSome := ⟨_, rfl⟩
  rw [← hr, ← hob] at CT CU
  rw [← hr] at HQ
  obtain ⟨D, hD⟩ : ∃ D, D = sxall len0 bs0 := ⟨_, rfl⟩
  rw [← hD] at CA CB HL
  have HR := Lib.hid R0
  clear hX hdd hr hob hD hn R0 hl0 hc0
  go_enter Try.func7, Try.ntmps7
  go_wp2_with fail
  refine (CR.out _ HR.out).mono ?_
  rintro e w1 ⟨rfl, b1⟩
  obtain ⟨hst, hA, hb⟩ := six_stored w1 X Xl Xo
  go_upto_region 2 with fail
  clear hst
  obtain ⟨V1, eV⟩ : ∃ V, V = (w1.alloc (.cells (Value.int .i64 0 :: Value.int .i64 0 :: Value.int .i64 0 :: Value.int .i64 0 :: Value.int .i64 0 :: Value.int .u8 0 :: Value.int .u8 0 :: Value.int .u8 0 :: Value.int .u8 0 :: Value.int .u8 0 :: Value.int .u8 0 :: Value.int .u8 0 :: Value.int .u8 0 :: Value.int .u8 0 :: Value.int .u8 0 :: Value.int .u8 0 :: Value.int .u8 0 :: Value.int .u8 0 :: Value.int .u8 0 :: Value.int .u8 0 :: Value.int .u8 0 :: Value.int .u8 0 :: Value.int .u8 0 :: Value.int .u8 0 :: Value.int .u8 0 :: Value.int .u8 0 :: Value.int .u8 0 :: Value.int .u8 0 :: Value.int .u8 0 :: Value.int .u8 0 :: Value.int .u8 0 :: Value.int .u8 0 :: Value.int .u8 0 :: Value.int .u8 0 :: Value.int .u8 0 :: Value.int .u8 0 :: Value.int .u8 0 :: [] : List Value).toArray 51)).setCells w1.heap.size 0 X := ⟨_, rfl⟩
  obtain ⟨hA2, hb2⟩ := six_world w1 X V1 eV hA hb
  have hbb := below_both b1 hb2
  have AV1 := Lib.hid hA2
  rw [← eV]
  obtain ⟨g1, hg⟩ : ∃ g, g = w1.heap.size := ⟨_, rfl⟩
  rw [← hg] at AV1 ⊢
  clear eV hA hb hA2 hb2 hg
  have B1 := Lib.hid hbb
  clear hbb b1
  go_wp2_with fail
  refine (CS.out _ (HR.out.below B1.out)).mono ?_
  rintro e w2 ⟨rfl, b2⟩
  obtain ⟨hst, hA, hb⟩ := six_stored w2 X Xl Xo
  go_upto_region 3 with fail
  clear hst
  obtain ⟨V2, eV⟩ : ∃ V, V = (w2.alloc (.cells (Value.int .i64 0 :: Value.int .i64 0 :: Value.int .i64 0 :: Value.int .i64 0 :: Value.int .i64 0 :: Value.int .u8 0 :: Value.int .u8 0 :: Value.int .u8 0 :: Value.int .u8 0 :: Value.int .u8 0 :: Value.int .u8 0 :: Value.int .u8 0 :: Value.int .u8 0 :: Value.int .u8 0 :: Value.int .u8 0 :: Value.int .u8 0 :: Value.int .u8 0 :: Value.int .u8 0 :: Value.int .u8 0 :: Value.int .u8 0 :: Value.int .u8 0 :: Value.int .u8 0 :: Value.int .u8 0 :: Value.int .u8 0 :: Value.int .u8 0 :: Value.int .u8 0 :: Value.int .u8 0 :: Value.int .u8 0 :: Value.int .u8 0 :: Value.int .u8 0 :: Value.int .u8 0 :: Value.int .u8 0 :: Value.int .u8 0 :: Value.int .u8 0 :: Value.int .u8 0 :: Value.int .u8 0 :: Value.int .u8 0 :: [] : List Value).toArray 51)).setCells w2.heap.size 0 X := ⟨_, rfl⟩
  obtain ⟨hA2, hb2⟩ := six_world w2 X V2 eV hA hb
  have hbb := below_both b2 hb2
  have AV2 := Lib.hid hA2
  have AV1 := Lib.hid (AV1.out.below hbb)
  rw [← eV]
  obtain ⟨g2, hg⟩ : ∃ g, g = w2.heap.size := ⟨_, rfl⟩
  rw [← hg] at AV2 ⊢
  clear eV hA hb hA2 hb2 hg
  have B2 := Lib.hid (below_both B1.out hbb)
  clear hbb b2 B1
  go_wp2_with fail
  refine (CT.out _ (HR.out.below B2.out)).mono ?_
  rintro e w3 ⟨v3, rfl, r3, b3⟩
  have AV1 := Lib.hid (AV1.out.below b3)
  have AV2 := Lib.hid (AV2.out.below b3)
  have B3 := Lib.hid (below_both B2.out b3)
  have R3 := Lib.hid r3
  clear b3 r3 B2
  go_wp2_with fail
  refine (CU.out _ (HR.out.below B3.out)).mono ?_
  rintro e w4 ⟨v4, rfl, r4, b4⟩
  have AV1 := Lib.hid (AV1.out.below b4)
  have AV2 := Lib.hid (AV2.out.below b4)
  have B4 := Lib.hid (below_both B3.out b4)
  have R3 := Lib.hid (R3.out.below b4)
  have R4 := Lib.hid r4
  clear b4 r4 B3
  go_wp2_with fail
  refine (live12 _).mono ?_
  rintro e w5 ⟨rfl, b5⟩
  have AV1 := Lib.hid (AV1.out.below b5)
  have AV2 := Lib.hid (AV2.out.below b5)
  have B5 := Lib.hid (below_both B4.out b5)
  have R3 := Lib.hid (R3.out.below b5)
  have R4 := Lib.hid (R4.out.below b5)
  clear b5 B4
  have heq := HEQ.out
  have hdd : ((d : Int) == (d : Int)) = true := by simp
  have hbb : (ob == ob) = true := by simp
  go_wp2_with (first | refine wpList_load_vg (by rfl) 51 (.tmp 3) rfl _ rfl tysix AV1.out Xl ?_ | refine wpList_load_vg (by rfl) 51 (.tmp 5) rfl _ rfl tysix AV2.out Xl ?_ | fail)
  refine (same_vals _ _ r _ HQ.out R3.out R4.out).mono ?_
  rintro e w6 ⟨rfl, b6⟩
  have B6 := Lib.hid (below_both B5.out b6)
  clear b6 AV1 AV2 B5
  go_wp2_with fail
  refine (CA.out _ (HR.out.below B6.out)).mono ?_
  rintro e w7 ⟨v7, rfl, d7, b7⟩
  have D7 := Lib.hid d7
  have B7 := Lib.hid (below_both B6.out b7)
  clear b7 d7 B6
  go_wp2_with fail
  refine (CB.out _ (HR.out.below B7.out)).mono ?_
  rintro e w8 ⟨v8, rfl, d8, b8⟩
  have D7 := Lib.hid (D7.out.below b8)
  have D8 := Lib.hid d8
  have B8 := Lib.hid (below_both B7.out b8)
  clear b8 d8 B7
  go_wp2_with fail
  refine (samedefs D _ _ _ (Nat.le_trans HL.out (by decide)) D7.out D8.out).mono ?_
  rintro e w9 ⟨rfl, b9⟩
  have B9 := Lib.hid (below_both B8.out b9)
  clear b9 B8
  go_wp2_with fail
  go_ret
  exact ⟨rfl, B9.out⟩
end Go.Proofs.Ytlopmkmcjcijcaa
