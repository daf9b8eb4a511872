/-
  sixhead.Write: what it answers is memory of the call's own.
-/
import Derived.Test.YtmchclpkjjmocaaGreatSx4
import Derived.Test.YtmchclpkjjmocaaGreatApp
namespace Go.Proofs.YtmchclpkjjmocaaGreat
open Go.RowKit
set_option linter.unusedVariables false

def TwoOwn (w : World) (ok : Bool) (l : List Nat) (y : Int) (e : Ending) (w' : World) : Prop := ∃ v, e = .returned (.tuple #[v, .int .i64 y]) ∧ ByteVal w' v l ∧ Below w.heap.size w w' ∧ (ok = true → OutIs w.heap.size w' v l)
theorem sx_own_out {B : Nat} {w : World} {g : Nat} {bs : List Nat} (h : Own w g bs) (hB : B ≤ g) (hl : bs.length ≤ maxLen) : OutIs B w (.slice (some ⟨g, 0, none⟩) bs.length bs.length) bs := by
  refine ⟨by simp [bcells_length], .inr ⟨g, bs.length, (bcells bs).toArray, rfl, hB, h, Nat.le_refl _, hl, by simp [bcells_length], ?_⟩⟩
  simp [List.take_of_length_le, bcells_length]
set_option maxRecDepth 10000 in
set_option maxHeartbeats 6400000 in
theorem sxwrite_own (f : SixV) (w : World) (hs : f.src.length = 16) (hd : f.dst.length = 16) (hsb : ∀ x ∈ f.src, x < 256) (hdb : ∀ x ∈ f.dst, x < 256) (hk : ∀ j, -9223372036854775808 ≤ f.k j ∧ f.k j ≤ 9223372036854775807) :
    Calls Tryz.prog 70 #[.agg f.cells.toArray] w (TwoOwn w (f.fitsTo 5) (if f.fitsTo 5 = true then f.bytes else []) (if f.fitsTo 5 = true then 0 else 1)) := by
  obtain ⟨hXl, hXo⟩ := SixV.cells_all hs hd
  have HK := Lib.hid hk
  obtain ⟨RL, hRL⟩ : ∃ RL, RL = (if f.fitsTo 5 = true then f.bytes else []) := ⟨_, rfl⟩
  obtain ⟨ry, hry⟩ : ∃ ry : Int, ry = (if f.fitsTo 5 = true then 0 else 1) := ⟨_, rfl⟩
  rw [← hRL, ← hry]
  have HRB : Hid (f.fitsTo 5 = false → RL = [] ∧ ry = 1) := fun h => by rw [hRL, hry, h]; exact ⟨rfl, rfl⟩
  have HRG : Hid (f.fitsTo 5 = true → RL = f.bytes ∧ ry = 0) := fun h => by rw [hRL, hry, h]; exact ⟨rfl, rfl⟩
  clear hRL hry
  have HSD := Lib.hid (And.intro hs (And.intro hd (And.intro hsb hdb)))
  have HC0 : Hid (∀ j, j < 5 → f.cells[j]? = some (.int .i64 (f.k j))) := fun j hj => by
    match j, hj with
    | 0, _ => rfl
    | 1, _ => rfl
    | 2, _ => rfl
    | 3, _ => rfl
    | 4, _ => rfl
  have HCS := Lib.hid (And.intro (SixV.cell_src hs) (SixV.cell_dst (f := f) hs))
  obtain ⟨X, hX⟩ : ∃ X, X = f.cells := ⟨_, rfl⟩
  rw [← hX] at hXl hXo HC0 HCS ⊢
  have HACC := Lib.hid (SixV.acc_lt f)
  have CS0 : Hid (∀ w, Calls Tryz.prog 36 #[.int .u64 0, .int .i64 60, .int .i64 4, .int .u64 6] w fun e w' => e = .returned (.int .u64 (f.acc 0 : Nat)) ∧ w = w') := fun w => setbits_ok 0 60 4 6 w (by decide) (by decide) (by decide)
  obtain ⟨V1, eV⟩ : ∃ V, V = w.alloc (.cells X.toArray 95) := ⟨_, rfl⟩
  have HA1 : Hid (ArrV 95 V1 w.heap.size X) := by show ArrV _ _ _ _; rw [eV]; exact ArrV.new _ w X
  have HB1 : Hid (Below w.heap.size w V1) := by show Below _ _ _; rw [eV]; exact (Below.refl _ _).alloc (Nat.le_refl _) _
  obtain ⟨a0, ha0⟩ : ∃ a0, a0 = f.acc 0 := ⟨_, rfl⟩
  rw [← ha0] at CS0
  have HA0 := Lib.hid ha0
  clear hX ha0 hs hd hsb hdb hk
  go_enter Tryz.func70, Tryz.ntmps70
  go_upto_region 1 with fail
  rw [← eV]
  clear eV
  obtain ⟨g1, hg1⟩ : ∃ g, g = w.heap.size := ⟨_, rfl⟩
  have HG1 : Hid (w.heap.size ≤ g1) := by show w.heap.size ≤ g1; rw [hg1]; exact Nat.le_refl _
  rw [← hg1] at HA1 ⊢
  clear hg1
  go_wp2_with fail
  refine (CS0.out _).mono ?_
  rintro e w' ⟨rfl, rfl⟩
  go_wp2_with fail
  refine (sxfields_any g1 V1).mono ?_
  rintro e w3 ⟨rfl, b3⟩
  have HB3 := Lib.hid b3
  have ix0 := sx_ix0 g1
  have ix1 := sx_ix1 g1
  have ix2 := sx_ix2 g1
  have ix3 := sx_ix3 g1
  have ix4 := sx_ix4 g1
  obtain ⟨F, hF⟩ : ∃ F, F = (sxFields g1).toArray := ⟨_, rfl⟩
  rw [← hF] at ix0 ix1 ix2 ix3 ix4 ⊢
  clear hF b3 CS0
  go_wp2_with fail
  go_loopw [4, 12] (fun fst i W => ∃ j : Nat, j ≤ 5 ∧ i = .int .i64 (j : Nat) ∧ fst = .int .u64 (f.acc j : Nat) ∧ f.fitsTo j = true ∧ Below V1.heap.size V1 W) (fun fst i W => 5 - (intOf i).toNat)
  case atStart => exact ⟨0, Nat.zero_le _, rfl, by rw [HA0.out], rfl, HB3.out⟩
  case round =>
    clear HB3 HA0
    obtain ⟨j, hj, rfl, rfl, hfit, hW⟩ := hrel
    have HFIT := Lib.hid hfit
    have HW := Lib.hid hW
    clear hfit hW
    by_cases hlt : j < 5
    · rcases (show j = 0 ∨ j = 1 ∨ j = 2 ∨ j = 3 ∨ j = 4 by omega) with rfl | rfl | rfl | rfl | rfl
      · obtain ⟨kj, hkj⟩ : ∃ kj, kj = f.k 0 := ⟨_, rfl⟩
        obtain ⟨lo, hi⟩ := HK.out 0
        rw [← hkj] at lo hi
        obtain ⟨u, y, wu, hy, hu64, hyes, hno⟩ := sx_num lo hi (show (8 : Nat) = 8 ∨ (8 : Nat) = 16 ∨ (8 : Nat) = 20 by decide)
        have CT : Hid (∀ w, Calls Tryz.prog 88 #[.int .u64 (u : Nat), .int .i64 0, .int .i64 8] w fun e w' => e = .returned (.int .u64 (y : Nat)) ∧ ∃ q, w' = w.drewN q) := fun w => by
          have q := bits_ok u 0 8 w hu64 (by decide) (by decide)
          rw [hy] at q
          exact q
        obtain ⟨aj, haj⟩ : ∃ a, a = f.acc 0 := ⟨_, rfl⟩
        rw [← haj]
        have hX0 := (HC0.out 0 (by decide))
        rw [← hkj] at hX0
        have HX0 := Lib.hid hX0
        clear hlt hj lo hi hy hX0
        by_cases hf : 0 ≤ kj ∧ kj < 2 ^ 8
        · obtain ⟨e1, e2⟩ := hyes hf
          have uy : ((u : Int) != (y : Int)) = false := by rw [e1]; simp
          obtain ⟨an, han⟩ : ∃ a, a = f.acc (0 + 1) := ⟨_, rfl⟩
          have CS : Hid (∀ w, Calls Tryz.prog 36 #[.int .u64 (aj : Nat), .int .i64 52, .int .i64 8, .int .u64 (u : Nat)] w fun e w' => e = .returned (.int .u64 (an : Nat)) ∧ w = w') := fun w => by
            have q := setbits_ok aj 52 8 u w (by rw [haj]; exact HACC.out 0) (by decide) (by decide)
            rw [show setb aj 52 8 u = an by rw [han, haj, e2, hkj]; rfl] at q
            exact q
          have HAN := Lib.hid han
          have HFN : Hid (f.fitsTo (0 + 1) = true) := by
            show f.fitsTo (0 + 1) = true
            rw [SixV.fitsTo, HFIT.out, ← hkj]
            exact decide_eq_true hf
          clear hyes hno hf e1 e2 haj han hkj hu64
          go_upto_region 5 with fail
          obtain ⟨U, eU⟩ : ∃ U, U = wr.alloc (.cells #[.pointer (some ⟨g1, 0, none⟩), .int .i64 52, .int .i64 8] 137) := ⟨_, rfl⟩
          have A8 : ArrV 137 U wr.heap.size [.pointer (some ⟨g1, 0, none⟩), .int .i64 52, .int .i64 8] := by rw [eU]; exact ArrV.new _ wr _
          have BU : Hid (Below V1.heap.size V1 U) := by show Below _ _ _; rw [eU]; exact HW.out.alloc HW.out.size _
          rw [← eU]
          obtain ⟨g8, hg8⟩ : ∃ g, g = wr.heap.size := ⟨_, rfl⟩
          rw [← hg8] at A8 ⊢
          have d0 := A8.get 0
          have d1 := A8.get 1
          have d2 := A8.get 2
          simp at d0 d1 d2
          have s0 := ((HA1.out.below BU.out).get 0).trans HX0.out
          have H8 := Lib.hid A8
          clear eU hg8 A8
          go_wp2_with fail
          refine (CT.out _).mono ?_
          rintro e w' ⟨rfl, q, rfl⟩
          obtain ⟨U2, eU2⟩ : ∃ U2, U2 = U.drewN q := ⟨_, rfl⟩
          have A8 : ArrV 137 U2 g8 [.pointer (some ⟨g1, 0, none⟩), .int .i64 52, .int .i64 8] := by rw [eU2]; exact H8.out
          have BU2 : Hid (Below V1.heap.size V1 U2) := by show Below _ _ _; rw [eU2]; exact below_drewN' BU.out q
          have d1 := A8.get 1
          have d2 := A8.get 2
          simp at d1 d2
          rw [← eU2]
          clear eU2 A8 H8 BU s0 d0
          go_wp2_with fail
          refine (CS.out _).mono ?_
          rintro e w' ⟨rfl, rfl⟩
          go_wp2_with fail
          go_roundw
          case rel => exact ⟨0 + 1, by decide, by go_num, by rw [HAN.out], HFN.out, BU2.out⟩
          case measure => simp [intOf]
        · have uy : ((u : Int) != (y : Int)) = true := bne_iff_ne.2 (fun e => hno hf (Int.ofNat.inj e))
          have HFN : Hid (f.fitsTo 5 = false) := by
            have h : f.fitsTo (0 + 1) = false := by rw [SixV.fitsTo, ← hkj, show decide (0 ≤ kj ∧ kj < 2 ^ sxCnt 0) = false from decide_eq_false hf, Bool.and_false]
            exact SixV.fits_stop f 4 (0 + 1) h
          clear hyes hno hf haj hkj hu64
          go_upto_region 5 with fail
          obtain ⟨U, eU⟩ : ∃ U, U = wr.alloc (.cells #[.pointer (some ⟨g1, 0, none⟩), .int .i64 52, .int .i64 8] 137) := ⟨_, rfl⟩
          have A8 : ArrV 137 U wr.heap.size [.pointer (some ⟨g1, 0, none⟩), .int .i64 52, .int .i64 8] := by rw [eU]; exact ArrV.new _ wr _
          have BU : Hid (Below V1.heap.size V1 U) := by show Below _ _ _; rw [eU]; exact HW.out.alloc HW.out.size _
          rw [← eU]
          obtain ⟨g8, hg8⟩ : ∃ g, g = wr.heap.size := ⟨_, rfl⟩
          rw [← hg8] at A8 ⊢
          have d0 := A8.get 0
          have d1 := A8.get 1
          have d2 := A8.get 2
          simp at d0 d1 d2
          have s0 := ((HA1.out.below BU.out).get 0).trans HX0.out
          clear eU hg8 A8
          go_wp2_with fail
          refine (CT.out _).mono ?_
          rintro e w' ⟨rfl, q, rfl⟩
          go_wp2_with fail
          go_ret2
          exact ⟨.slice none 0 0, by rw [(HRB.out HFN.out).2]; rfl, by rw [(HRB.out HFN.out).1]; exact ByteVal.nil _, below_drewN' (below_both HB1.out BU.out) _, fun h => absurd (h.symm.trans HFN.out) (by decide)⟩
      · obtain ⟨kj, hkj⟩ : ∃ kj, kj = f.k 1 := ⟨_, rfl⟩
        obtain ⟨lo, hi⟩ := HK.out 1
        rw [← hkj] at lo hi
        obtain ⟨u, y, wu, hy, hu64, hyes, hno⟩ := sx_num lo hi (show (20 : Nat) = 8 ∨ (20 : Nat) = 16 ∨ (20 : Nat) = 20 by decide)
        have CT : Hid (∀ w, Calls Tryz.prog 88 #[.int .u64 (u : Nat), .int .i64 0, .int .i64 20] w fun e w' => e = .returned (.int .u64 (y : Nat)) ∧ ∃ q, w' = w.drewN q) := fun w => by
          have q := bits_ok u 0 20 w hu64 (by decide) (by decide)
          rw [hy] at q
          exact q
        obtain ⟨aj, haj⟩ : ∃ a, a = f.acc 1 := ⟨_, rfl⟩
        rw [← haj]
        have hX0 := (HC0.out 1 (by decide))
        rw [← hkj] at hX0
        have HX0 := Lib.hid hX0
        clear hlt hj lo hi hy hX0
        by_cases hf : 0 ≤ kj ∧ kj < 2 ^ 20
        · obtain ⟨e1, e2⟩ := hyes hf
          have uy : ((u : Int) != (y : Int)) = false := by rw [e1]; simp
          obtain ⟨an, han⟩ : ∃ a, a = f.acc (1 + 1) := ⟨_, rfl⟩
          have CS : Hid (∀ w, Calls Tryz.prog 36 #[.int .u64 (aj : Nat), .int .i64 32, .int .i64 20, .int .u64 (u : Nat)] w fun e w' => e = .returned (.int .u64 (an : Nat)) ∧ w = w') := fun w => by
            have q := setbits_ok aj 32 20 u w (by rw [haj]; exact HACC.out 1) (by decide) (by decide)
            rw [show setb aj 32 20 u = an by rw [han, haj, e2, hkj]; rfl] at q
            exact q
          have HAN := Lib.hid han
          have HFN : Hid (f.fitsTo (1 + 1) = true) := by
            show f.fitsTo (1 + 1) = true
            rw [SixV.fitsTo, HFIT.out, ← hkj]
            exact decide_eq_true hf
          clear hyes hno hf e1 e2 haj han hkj hu64
          go_upto_region 5 with fail
          obtain ⟨U, eU⟩ : ∃ U, U = wr.alloc (.cells #[.pointer (some ⟨g1, 1, none⟩), .int .i64 32, .int .i64 20] 137) := ⟨_, rfl⟩
          have A8 : ArrV 137 U wr.heap.size [.pointer (some ⟨g1, 1, none⟩), .int .i64 32, .int .i64 20] := by rw [eU]; exact ArrV.new _ wr _
          have BU : Hid (Below V1.heap.size V1 U) := by show Below _ _ _; rw [eU]; exact HW.out.alloc HW.out.size _
          rw [← eU]
          obtain ⟨g8, hg8⟩ : ∃ g, g = wr.heap.size := ⟨_, rfl⟩
          rw [← hg8] at A8 ⊢
          have d0 := A8.get 0
          have d1 := A8.get 1
          have d2 := A8.get 2
          simp at d0 d1 d2
          have s0 := ((HA1.out.below BU.out).get 1).trans HX0.out
          have H8 := Lib.hid A8
          clear eU hg8 A8
          go_wp2_with fail
          refine (CT.out _).mono ?_
          rintro e w' ⟨rfl, q, rfl⟩
          obtain ⟨U2, eU2⟩ : ∃ U2, U2 = U.drewN q := ⟨_, rfl⟩
          have A8 : ArrV 137 U2 g8 [.pointer (some ⟨g1, 1, none⟩), .int .i64 32, .int .i64 20] := by rw [eU2]; exact H8.out
          have BU2 : Hid (Below V1.heap.size V1 U2) := by show Below _ _ _; rw [eU2]; exact below_drewN' BU.out q
          have d1 := A8.get 1
          have d2 := A8.get 2
          simp at d1 d2
          rw [← eU2]
          clear eU2 A8 H8 BU s0 d0
          go_wp2_with fail
          refine (CS.out _).mono ?_
          rintro e w' ⟨rfl, rfl⟩
          go_wp2_with fail
          go_roundw
          case rel => exact ⟨1 + 1, by decide, by go_num, by rw [HAN.out], HFN.out, BU2.out⟩
          case measure => simp [intOf]
        · have uy : ((u : Int) != (y : Int)) = true := bne_iff_ne.2 (fun e => hno hf (Int.ofNat.inj e))
          have HFN : Hid (f.fitsTo 5 = false) := by
            have h : f.fitsTo (1 + 1) = false := by rw [SixV.fitsTo, ← hkj, show decide (0 ≤ kj ∧ kj < 2 ^ sxCnt 1) = false from decide_eq_false hf, Bool.and_false]
            exact SixV.fits_stop f 3 (1 + 1) h
          clear hyes hno hf haj hkj hu64
          go_upto_region 5 with fail
          obtain ⟨U, eU⟩ : ∃ U, U = wr.alloc (.cells #[.pointer (some ⟨g1, 1, none⟩), .int .i64 32, .int .i64 20] 137) := ⟨_, rfl⟩
          have A8 : ArrV 137 U wr.heap.size [.pointer (some ⟨g1, 1, none⟩), .int .i64 32, .int .i64 20] := by rw [eU]; exact ArrV.new _ wr _
          have BU : Hid (Below V1.heap.size V1 U) := by show Below _ _ _; rw [eU]; exact HW.out.alloc HW.out.size _
          rw [← eU]
          obtain ⟨g8, hg8⟩ : ∃ g, g = wr.heap.size := ⟨_, rfl⟩
          rw [← hg8] at A8 ⊢
          have d0 := A8.get 0
          have d1 := A8.get 1
          have d2 := A8.get 2
          simp at d0 d1 d2
          have s0 := ((HA1.out.below BU.out).get 1).trans HX0.out
          clear eU hg8 A8
          go_wp2_with fail
          refine (CT.out _).mono ?_
          rintro e w' ⟨rfl, q, rfl⟩
          go_wp2_with fail
          go_ret2
          exact ⟨.slice none 0 0, by rw [(HRB.out HFN.out).2]; rfl, by rw [(HRB.out HFN.out).1]; exact ByteVal.nil _, below_drewN' (below_both HB1.out BU.out) _, fun h => absurd (h.symm.trans HFN.out) (by decide)⟩
      · obtain ⟨kj, hkj⟩ : ∃ kj, kj = f.k 2 := ⟨_, rfl⟩
        obtain ⟨lo, hi⟩ := HK.out 2
        rw [← hkj] at lo hi
        obtain ⟨u, y, wu, hy, hu64, hyes, hno⟩ := sx_num lo hi (show (16 : Nat) = 8 ∨ (16 : Nat) = 16 ∨ (16 : Nat) = 20 by decide)
        have CT : Hid (∀ w, Calls Tryz.prog 88 #[.int .u64 (u : Nat), .int .i64 0, .int .i64 16] w fun e w' => e = .returned (.int .u64 (y : Nat)) ∧ ∃ q, w' = w.drewN q) := fun w => by
          have q := bits_ok u 0 16 w hu64 (by decide) (by decide)
          rw [hy] at q
          exact q
        obtain ⟨aj, haj⟩ : ∃ a, a = f.acc 2 := ⟨_, rfl⟩
        rw [← haj]
        have hX0 := (HC0.out 2 (by decide))
        rw [← hkj] at hX0
        have HX0 := Lib.hid hX0
        clear hlt hj lo hi hy hX0
        by_cases hf : 0 ≤ kj ∧ kj < 2 ^ 16
        · obtain ⟨e1, e2⟩ := hyes hf
          have uy : ((u : Int) != (y : Int)) = false := by rw [e1]; simp
          obtain ⟨an, han⟩ : ∃ a, a = f.acc (2 + 1) := ⟨_, rfl⟩
          have CS : Hid (∀ w, Calls Tryz.prog 36 #[.int .u64 (aj : Nat), .int .i64 16, .int .i64 16, .int .u64 (u : Nat)] w fun e w' => e = .returned (.int .u64 (an : Nat)) ∧ w = w') := fun w => by
            have q := setbits_ok aj 16 16 u w (by rw [haj]; exact HACC.out 2) (by decide) (by decide)
            rw [show setb aj 16 16 u = an by rw [han, haj, e2, hkj]; rfl] at q
            exact q
          have HAN := Lib.hid han
          have HFN : Hid (f.fitsTo (2 + 1) = true) := by
            show f.fitsTo (2 + 1) = true
            rw [SixV.fitsTo, HFIT.out, ← hkj]
            exact decide_eq_true hf
          clear hyes hno hf e1 e2 haj han hkj hu64
          go_upto_region 5 with fail
          obtain ⟨U, eU⟩ : ∃ U, U = wr.alloc (.cells #[.pointer (some ⟨g1, 2, none⟩), .int .i64 16, .int .i64 16] 137) := ⟨_, rfl⟩
          have A8 : ArrV 137 U wr.heap.size [.pointer (some ⟨g1, 2, none⟩), .int .i64 16, .int .i64 16] := by rw [eU]; exact ArrV.new _ wr _
          have BU : Hid (Below V1.heap.size V1 U) := by show Below _ _ _; rw [eU]; exact HW.out.alloc HW.out.size _
          rw [← eU]
          obtain ⟨g8, hg8⟩ : ∃ g, g = wr.heap.size := ⟨_, rfl⟩
          rw [← hg8] at A8 ⊢
          have d0 := A8.get 0
          have d1 := A8.get 1
          have d2 := A8.get 2
          simp at d0 d1 d2
          have s0 := ((HA1.out.below BU.out).get 2).trans HX0.out
          have H8 := Lib.hid A8
          clear eU hg8 A8
          go_wp2_with fail
          refine (CT.out _).mono ?_
          rintro e w' ⟨rfl, q, rfl⟩
          obtain ⟨U2, eU2⟩ : ∃ U2, U2 = U.drewN q := ⟨_, rfl⟩
          have A8 : ArrV 137 U2 g8 [.pointer (some ⟨g1, 2, none⟩), .int .i64 16, .int .i64 16] := by rw [eU2]; exact H8.out
          have BU2 : Hid (Below V1.heap.size V1 U2) := by show Below _ _ _; rw [eU2]; exact below_drewN' BU.out q
          have d1 := A8.get 1
          have d2 := A8.get 2
          simp at d1 d2
          rw [← eU2]
          clear eU2 A8 H8 BU s0 d0
          go_wp2_with fail
          refine (CS.out _).mono ?_
          rintro e w' ⟨rfl, rfl⟩
          go_wp2_with fail
          go_roundw
          case rel => exact ⟨2 + 1, by decide, by go_num, by rw [HAN.out], HFN.out, BU2.out⟩
          case measure => simp [intOf]
        · have uy : ((u : Int) != (y : Int)) = true := bne_iff_ne.2 (fun e => hno hf (Int.ofNat.inj e))
          have HFN : Hid (f.fitsTo 5 = false) := by
            have h : f.fitsTo (2 + 1) = false := by rw [SixV.fitsTo, ← hkj, show decide (0 ≤ kj ∧ kj < 2 ^ sxCnt 2) = false from decide_eq_false hf, Bool.and_false]
            exact SixV.fits_stop f 2 (2 + 1) h
          clear hyes hno hf haj hkj hu64
          go_upto_region 5 with fail
          obtain ⟨U, eU⟩ : ∃ U, U = wr.alloc (.cells #[.pointer (some ⟨g1, 2, none⟩), .int .i64 16, .int .i64 16] 137) := ⟨_, rfl⟩
          have A8 : ArrV 137 U wr.heap.size [.pointer (some ⟨g1, 2, none⟩), .int .i64 16, .int .i64 16] := by rw [eU]; exact ArrV.new _ wr _
          have BU : Hid (Below V1.heap.size V1 U) := by show Below _ _ _; rw [eU]; exact HW.out.alloc HW.out.size _
          rw [← eU]
          obtain ⟨g8, hg8⟩ : ∃ g, g = wr.heap.size := ⟨_, rfl⟩
          rw [← hg8] at A8 ⊢
          have d0 := A8.get 0
          have d1 := A8.get 1
          have d2 := A8.get 2
          simp at d0 d1 d2
          have s0 := ((HA1.out.below BU.out).get 2).trans HX0.out
          clear eU hg8 A8
          go_wp2_with fail
          refine (CT.out _).mono ?_
          rintro e w' ⟨rfl, q, rfl⟩
          go_wp2_with fail
          go_ret2
          exact ⟨.slice none 0 0, by rw [(HRB.out HFN.out).2]; rfl, by rw [(HRB.out HFN.out).1]; exact ByteVal.nil _, below_drewN' (below_both HB1.out BU.out) _, fun h => absurd (h.symm.trans HFN.out) (by decide)⟩
      · obtain ⟨kj, hkj⟩ : ∃ kj, kj = f.k 3 := ⟨_, rfl⟩
        obtain ⟨lo, hi⟩ := HK.out 3
        rw [← hkj] at lo hi
        obtain ⟨u, y, wu, hy, hu64, hyes, hno⟩ := sx_num lo hi (show (8 : Nat) = 8 ∨ (8 : Nat) = 16 ∨ (8 : Nat) = 20 by decide)
        have CT : Hid (∀ w, Calls Tryz.prog 88 #[.int .u64 (u : Nat), .int .i64 0, .int .i64 8] w fun e w' => e = .returned (.int .u64 (y : Nat)) ∧ ∃ q, w' = w.drewN q) := fun w => by
          have q := bits_ok u 0 8 w hu64 (by decide) (by decide)
          rw [hy] at q
          exact q
        obtain ⟨aj, haj⟩ : ∃ a, a = f.acc 3 := ⟨_, rfl⟩
        rw [← haj]
        have hX0 := (HC0.out 3 (by decide))
        rw [← hkj] at hX0
        have HX0 := Lib.hid hX0
        clear hlt hj lo hi hy hX0
        by_cases hf : 0 ≤ kj ∧ kj < 2 ^ 8
        · obtain ⟨e1, e2⟩ := hyes hf
          have uy : ((u : Int) != (y : Int)) = false := by rw [e1]; simp
          obtain ⟨an, han⟩ : ∃ a, a = f.acc (3 + 1) := ⟨_, rfl⟩
          have CS : Hid (∀ w, Calls Tryz.prog 36 #[.int .u64 (aj : Nat), .int .i64 8, .int .i64 8, .int .u64 (u : Nat)] w fun e w' => e = .returned (.int .u64 (an : Nat)) ∧ w = w') := fun w => by
            have q := setbits_ok aj 8 8 u w (by rw [haj]; exact HACC.out 3) (by decide) (by decide)
            rw [show setb aj 8 8 u = an by rw [han, haj, e2, hkj]; rfl] at q
            exact q
          have HAN := Lib.hid han
          have HFN : Hid (f.fitsTo (3 + 1) = true) := by
            show f.fitsTo (3 + 1) = true
            rw [SixV.fitsTo, HFIT.out, ← hkj]
            exact decide_eq_true hf
          clear hyes hno hf e1 e2 haj han hkj hu64
          go_upto_region 5 with fail
          obtain ⟨U, eU⟩ : ∃ U, U = wr.alloc (.cells #[.pointer (some ⟨g1, 3, none⟩), .int .i64 8, .int .i64 8] 137) := ⟨_, rfl⟩
          have A8 : ArrV 137 U wr.heap.size [.pointer (some ⟨g1, 3, none⟩), .int .i64 8, .int .i64 8] := by rw [eU]; exact ArrV.new _ wr _
          have BU : Hid (Below V1.heap.size V1 U) := by show Below _ _ _; rw [eU]; exact HW.out.alloc HW.out.size _
          rw [← eU]
          obtain ⟨g8, hg8⟩ : ∃ g, g = wr.heap.size := ⟨_, rfl⟩
          rw [← hg8] at A8 ⊢
          have d0 := A8.get 0
          have d1 := A8.get 1
          have d2 := A8.get 2
          simp at d0 d1 d2
          have s0 := ((HA1.out.below BU.out).get 3).trans HX0.out
          have H8 := Lib.hid A8
          clear eU hg8 A8
          go_wp2_with fail
          refine (CT.out _).mono ?_
          rintro e w' ⟨rfl, q, rfl⟩
          obtain ⟨U2, eU2⟩ : ∃ U2, U2 = U.drewN q := ⟨_, rfl⟩
          have A8 : ArrV 137 U2 g8 [.pointer (some ⟨g1, 3, none⟩), .int .i64 8, .int .i64 8] := by rw [eU2]; exact H8.out
          have BU2 : Hid (Below V1.heap.size V1 U2) := by show Below _ _ _; rw [eU2]; exact below_drewN' BU.out q
          have d1 := A8.get 1
          have d2 := A8.get 2
          simp at d1 d2
          rw [← eU2]
          clear eU2 A8 H8 BU s0 d0
          go_wp2_with fail
          refine (CS.out _).mono ?_
          rintro e w' ⟨rfl, rfl⟩
          go_wp2_with fail
          go_roundw
          case rel => exact ⟨3 + 1, by decide, by go_num, by rw [HAN.out], HFN.out, BU2.out⟩
          case measure => simp [intOf]
        · have uy : ((u : Int) != (y : Int)) = true := bne_iff_ne.2 (fun e => hno hf (Int.ofNat.inj e))
          have HFN : Hid (f.fitsTo 5 = false) := by
            have h : f.fitsTo (3 + 1) = false := by rw [SixV.fitsTo, ← hkj, show decide (0 ≤ kj ∧ kj < 2 ^ sxCnt 3) = false from decide_eq_false hf, Bool.and_false]
            exact SixV.fits_stop f 1 (3 + 1) h
          clear hyes hno hf haj hkj hu64
          go_upto_region 5 with fail
          obtain ⟨U, eU⟩ : ∃ U, U = wr.alloc (.cells #[.pointer (some ⟨g1, 3, none⟩), .int .i64 8, .int .i64 8] 137) := ⟨_, rfl⟩
          have A8 : ArrV 137 U wr.heap.size [.pointer (some ⟨g1, 3, none⟩), .int .i64 8, .int .i64 8] := by rw [eU]; exact ArrV.new _ wr _
          have BU : Hid (Below V1.heap.size V1 U) := by show Below _ _ _; rw [eU]; exact HW.out.alloc HW.out.size _
          rw [← eU]
          obtain ⟨g8, hg8⟩ : ∃ g, g = wr.heap.size := ⟨_, rfl⟩
          rw [← hg8] at A8 ⊢
          have d0 := A8.get 0
          have d1 := A8.get 1
          have d2 := A8.get 2
          simp at d0 d1 d2
          have s0 := ((HA1.out.below BU.out).get 3).trans HX0.out
          clear eU hg8 A8
          go_wp2_with fail
          refine (CT.out _).mono ?_
          rintro e w' ⟨rfl, q, rfl⟩
          go_wp2_with fail
          go_ret2
          exact ⟨.slice none 0 0, by rw [(HRB.out HFN.out).2]; rfl, by rw [(HRB.out HFN.out).1]; exact ByteVal.nil _, below_drewN' (below_both HB1.out BU.out) _, fun h => absurd (h.symm.trans HFN.out) (by decide)⟩
      · obtain ⟨kj, hkj⟩ : ∃ kj, kj = f.k 4 := ⟨_, rfl⟩
        obtain ⟨lo, hi⟩ := HK.out 4
        rw [← hkj] at lo hi
        obtain ⟨u, y, wu, hy, hu64, hyes, hno⟩ := sx_num lo hi (show (8 : Nat) = 8 ∨ (8 : Nat) = 16 ∨ (8 : Nat) = 20 by decide)
        have CT : Hid (∀ w, Calls Tryz.prog 88 #[.int .u64 (u : Nat), .int .i64 0, .int .i64 8] w fun e w' => e = .returned (.int .u64 (y : Nat)) ∧ ∃ q, w' = w.drewN q) := fun w => by
          have q := bits_ok u 0 8 w hu64 (by decide) (by decide)
          rw [hy] at q
          exact q
        obtain ⟨aj, haj⟩ : ∃ a, a = f.acc 4 := ⟨_, rfl⟩
        rw [← haj]
        have hX0 := (HC0.out 4 (by decide))
        rw [← hkj] at hX0
        have HX0 := Lib.hid hX0
        clear hlt hj lo hi hy hX0
        by_cases hf : 0 ≤ kj ∧ kj < 2 ^ 8
        · obtain ⟨e1, e2⟩ := hyes hf
          have uy : ((u : Int) != (y : Int)) = false := by rw [e1]; simp
          obtain ⟨an, han⟩ : ∃ a, a = f.acc (4 + 1) := ⟨_, rfl⟩
          have CS : Hid (∀ w, Calls Tryz.prog 36 #[.int .u64 (aj : Nat), .int .i64 0, .int .i64 8, .int .u64 (u : Nat)] w fun e w' => e = .returned (.int .u64 (an : Nat)) ∧ w = w') := fun w => by
            have q := setbits_ok aj 0 8 u w (by rw [haj]; exact HACC.out 4) (by decide) (by decide)
            rw [show setb aj 0 8 u = an by rw [han, haj, e2, hkj]; rfl] at q
            exact q
          have HAN := Lib.hid han
          have HFN : Hid (f.fitsTo (4 + 1) = true) := by
            show f.fitsTo (4 + 1) = true
            rw [SixV.fitsTo, HFIT.out, ← hkj]
            exact decide_eq_true hf
          clear hyes hno hf e1 e2 haj han hkj hu64
          go_upto_region 5 with fail
          obtain ⟨U, eU⟩ : ∃ U, U = wr.alloc (.cells #[.pointer (some ⟨g1, 4, none⟩), .int .i64 0, .int .i64 8] 137) := ⟨_, rfl⟩
          have A8 : ArrV 137 U wr.heap.size [.pointer (some ⟨g1, 4, none⟩), .int .i64 0, .int .i64 8] := by rw [eU]; exact ArrV.new _ wr _
          have BU : Hid (Below V1.heap.size V1 U) := by show Below _ _ _; rw [eU]; exact HW.out.alloc HW.out.size _
          rw [← eU]
          obtain ⟨g8, hg8⟩ : ∃ g, g = wr.heap.size := ⟨_, rfl⟩
          rw [← hg8] at A8 ⊢
          have d0 := A8.get 0
          have d1 := A8.get 1
          have d2 := A8.get 2
          simp at d0 d1 d2
          have s0 := ((HA1.out.below BU.out).get 4).trans HX0.out
          have H8 := Lib.hid A8
          clear eU hg8 A8
          go_wp2_with fail
          refine (CT.out _).mono ?_
          rintro e w' ⟨rfl, q, rfl⟩
          obtain ⟨U2, eU2⟩ : ∃ U2, U2 = U.drewN q := ⟨_, rfl⟩
          have A8 : ArrV 137 U2 g8 [.pointer (some ⟨g1, 4, none⟩), .int .i64 0, .int .i64 8] := by rw [eU2]; exact H8.out
          have BU2 : Hid (Below V1.heap.size V1 U2) := by show Below _ _ _; rw [eU2]; exact below_drewN' BU.out q
          have d1 := A8.get 1
          have d2 := A8.get 2
          simp at d1 d2
          rw [← eU2]
          clear eU2 A8 H8 BU s0 d0
          go_wp2_with fail
          refine (CS.out _).mono ?_
          rintro e w' ⟨rfl, rfl⟩
          go_wp2_with fail
          go_roundw
          case rel => exact ⟨4 + 1, by decide, by go_num, by rw [HAN.out], HFN.out, BU2.out⟩
          case measure => simp [intOf]
        · have uy : ((u : Int) != (y : Int)) = true := bne_iff_ne.2 (fun e => hno hf (Int.ofNat.inj e))
          have HFN : Hid (f.fitsTo 5 = false) := by
            have h : f.fitsTo (4 + 1) = false := by rw [SixV.fitsTo, ← hkj, show decide (0 ≤ kj ∧ kj < 2 ^ sxCnt 4) = false from decide_eq_false hf, Bool.and_false]
            exact SixV.fits_stop f 0 (4 + 1) h
          clear hyes hno hf haj hkj hu64
          go_upto_region 5 with fail
          obtain ⟨U, eU⟩ : ∃ U, U = wr.alloc (.cells #[.pointer (some ⟨g1, 4, none⟩), .int .i64 0, .int .i64 8] 137) := ⟨_, rfl⟩
          have A8 : ArrV 137 U wr.heap.size [.pointer (some ⟨g1, 4, none⟩), .int .i64 0, .int .i64 8] := by rw [eU]; exact ArrV.new _ wr _
          have BU : Hid (Below V1.heap.size V1 U) := by show Below _ _ _; rw [eU]; exact HW.out.alloc HW.out.size _
          rw [← eU]
          obtain ⟨g8, hg8⟩ : ∃ g, g = wr.heap.size := ⟨_, rfl⟩
          rw [← hg8] at A8 ⊢
          have d0 := A8.get 0
          have d1 := A8.get 1
          have d2 := A8.get 2
          simp at d0 d1 d2
          have s0 := ((HA1.out.below BU.out).get 4).trans HX0.out
          clear eU hg8 A8
          go_wp2_with fail
          refine (CT.out _).mono ?_
          rintro e w' ⟨rfl, q, rfl⟩
          go_wp2_with fail
          go_ret2
          exact ⟨.slice none 0 0, by rw [(HRB.out HFN.out).2]; rfl, by rw [(HRB.out HFN.out).1]; exact ByteVal.nil _, below_drewN' (below_both HB1.out BU.out) _, fun h => absurd (h.symm.trans HFN.out) (by decide)⟩
    · have hj5 : j = 5 := Nat.le_antisymm hj (Nat.le_of_not_lt hlt)
      subst hj5
      obtain ⟨x, hx⟩ : ∃ x, x = f.acc 5 := ⟨_, rfl⟩
      rw [← hx]
      have hx64 : x < 256 ^ 8 := by rw [hx]; exact Nat.lt_of_le_of_lt (HACC.out 5) (by decide)
      have HXX := Lib.hid hx
      have hmk : ∀ w : World, (Instr.makeSlice 22 (.int .i64 40) (.int .i64 40)).run Tryz.prog w = .ok (.slice (some ⟨w.heap.size, 0, none⟩) 40 40) (w.alloc (.cells (bcells (List.replicate 40 0)).toArray 5)) := fun w => make_bytes 40 (by decide) w
      have CP : Hid (Calls Tryz.prog 35 #[.slice (some ⟨wr.heap.size, 0, none⟩) 40 40, .int .i64 0, .int .i64 8, .int .u64 (x : Nat)] (wr.alloc (.cells (bcells (List.replicate 40 0)).toArray 5)) (PutTo (wr.alloc (.cells (bcells (List.replicate 40 0)).toArray 5)) (pb x 8 ++ List.replicate 32 0))) := by
        have q := put_new (some ⟨wr.heap.size, 0, none⟩) 40 40 x 0 8 (List.replicate 40 0) (wr.alloc (.cells (bcells (List.replicate 40 0)).toArray 5)) (by decide) (by decide) (by decide) (by decide) hx64 (by decide) ((Own.new wr (List.replicate 40 0)).row (by decide))
        rw [six_head] at q
        exact q
      unfold PutTo at CP
      have s5 : ¬ (5 : Int) < 5 := by decide
      clear hlt hj hx hx64 ix0 ix1 ix2 ix3 ix4
      go_wp2_with fail
      refine CP.out.mono ?_
      rintro e w5 ⟨rfl, ho, b5⟩
      obtain ⟨W5, eW5⟩ : ∃ W, W = wr.alloc (.cells (bcells (List.replicate 40 0)).toArray 5) := ⟨_, rfl⟩
      rw [← eW5] at ho b5
      have hlen : (pb x 8 ++ List.replicate 32 0).length = 40 := by rw [List.length_append, pb_length]; rfl
      have BW5 : Hid (Below V1.heap.size V1 W5) := by show Below _ _ _; rw [eW5]; exact HW.out.alloc HW.out.size _
      rw [hlen]
      have B5 : Below V1.heap.size V1 w5 := BW5.out.trans (b5.mono BW5.out.size)
      have HG5 : Hid (V1.heap.size ≤ W5.heap.size) := BW5.out.size
      obtain ⟨g5, hg5⟩ : ∃ g, g = W5.heap.size := ⟨_, rfl⟩
      rw [← eW5, ← hg5]
      rw [← hg5] at ho HG5
      obtain ⟨hs, hd, hsb, hdb⟩ := HSD.out
      obtain ⟨w6, hcp, hO, b6⟩ := copy_at Tryz.underlying22 u8one 5 w5.drew g5 8 32 32 (bcells (pb x 8 ++ List.replicate 32 0)) ⟨g1, 5, none⟩ 16 16 (bcells f.src) (show ArrV 5 w5.drew g5 _ from ho) (by rw [bcells_length, hs]; rfl) (arr_src (HA1.out.below B5).drew HCS.out.1) (by rw [bcells_length, bcells_length, hs, hlen]; decide) (bcells_one _)
      rw [six_one _ _ (pb_length _ _) hs] at hO
      have B6 : Below V1.heap.size V1 w6 := (B5.drew).trans (b6.mono HG5.out)
      obtain ⟨w7, hcp2, hO2, b7⟩ := copy_at Tryz.underlying22 u8one 5 w6.drew g5 24 16 16 (bcells (pb x 8 ++ f.src ++ List.replicate 16 0)) ⟨g1, 21, none⟩ 16 16 (bcells f.dst) hO.drew (by rw [bcells_length, hd]; rfl) (arr_src (HA1.out.below B6).drew HCS.out.2) (by rw [bcells_length, bcells_length, hd, List.length_append, List.length_append, pb_length, hs]; decide) (bcells_one _)
      rw [six_two _ _ _ (pb_length _ _) hs hd] at hO2
      have B7 : Hid (Below V1.heap.size V1 w7) := (B6.drew).trans (b7.mono HG5.out)
      rw [bcells_length, hs] at hcp
      rw [bcells_length, hd] at hcp2
      have HO2 : Hid (Row w7 (some ⟨g5, 0, none⟩) 40 f.bytes) := by
        have h : Own w7 g5 f.bytes := by
          unfold SixV.bytes
          rw [← HXX.out]
          exact hO2
        have hl : f.bytes.length = 40 := by unfold SixV.bytes; rw [List.length_append, List.length_append, pb_length, hs, hd]
        have h2 := h.row (fun z hz => by
          unfold SixV.bytes at hz
          rcases List.mem_append.1 hz with h | h
          · rcases List.mem_append.1 h with h | h
            · exact pb_byte _ _ z h
            · exact hsb z h
          · exact hdb z h)
        rw [hl] at h2
        exact h2
      have HOWN : Hid (Own w7 g5 f.bytes) := by
        show Own w7 g5 f.bytes
        unfold SixV.bytes
        rw [← HXX.out]
        exact hO2
      have HBL : Hid (f.bytes.length = 40) := by show f.bytes.length = 40; unfold SixV.bytes; rw [List.length_append, List.length_append, pb_length, hs, hd]
      clear ho b5 B5 hs hd hsb hdb hO b6 B6 hO2 b7 hlen CP hmk eW5 hg5
      go_wp2_with fail
      go_region
      go_wp2_with fail
      go_region
      go_wp2_with fail
      go_ret2
      obtain ⟨e1, e2⟩ := HRG.out HFIT.out
      exact ⟨.slice (some ⟨g5, 0, none⟩) 40 40, by rw [e2]; rfl, ⟨some ⟨g5, 0, none⟩, 40, by rw [e1, HBL.out], by rw [e1, HBL.out]; exact Nat.le_refl _, by rw [e1, HBL.out]; exact HO2.out⟩, below_both HB1.out B7.out, fun _ => by rw [e1]; have h := sx_own_out (HOWN.out) (B := w.heap.size) (Nat.le_trans HB1.out.size HG5.out) (by rw [HBL.out]; decide); rw [HBL.out] at h; exact h⟩
end Go.Proofs.YtmchclpkjjmocaaGreat
