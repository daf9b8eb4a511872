/-
  The document's Write of layer 10.
-/
import Derived.Test.YteldjcdoohafcaaRFh4
namespace Go.Proofs.Yteldjcdoohafcaa
open Go.RowKit
set_option linter.unusedVariables false

instance okAtDec (f : FourV) (k : Nat) : Decidable (f.okAt k) := inferInstanceAs (Decidable (fourLo.getD k 0 ≤ f.ks.getD k 0 ∧ f.ks.getD k 0 ≤ fourHi.getD k 0))
theorem rhead_cells (a0 a1 a2 a3 a4 a5 a6 a7 a8 : Nat) (h : (a0 ≤ 15 ∧ 5 ≤ a0) ∧ a1 ≤ 255 ∧ a2 ≤ 65535 ∧ a3 ≤ 65535 ∧ a4 ≤ 7 ∧ a5 ≤ 8191 ∧ a6 ≤ 255 ∧ a7 ≤ 255 ∧ a8 ≤ 65535) :
    (#[Value.int .u8 (wrap64 (64 + (a0 : Int)) % 256), .int .u8 ((a1 : Int) % 256), .int .u8 (wrap64 ((a2 : Int) / 256) % 256), .int .u8 ((a2 : Int) % 256), .int .u8 (wrap64 ((a3 : Int) / 256) % 256), .int .u8 ((a3 : Int) % 256),
      .int .u8 (wrap64 (wrap64 ((a4 : Int) * 32) + wrap64 ((a5 : Int) / 256)) % 256), .int .u8 ((a5 : Int) % 256), .int .u8 ((a6 : Int) % 256), .int .u8 ((a7 : Int) % 256), .int .u8 (wrap64 ((a8 : Int) / 256) % 256), .int .u8 ((a8 : Int) % 256)] : Array Value) = (bcells (head12 a0 a1 a2 a3 a4 a5 a6 a7 a8)).toArray := by
  rw [w64_in (x := 64 + (a0 : Int)) (by omega) (by omega), w64_in (x := (a2 : Int) / 256) (by omega) (by omega), w64_in (x := (a3 : Int) / 256) (by omega) (by omega), w64_in (x := (a5 : Int) / 256) (by omega) (by omega), w64_in (x := (a8 : Int) / 256) (by omega) (by omega),
    w64_in (x := (a4 : Int) * 32) (by omega) (by omega), w64_in (x := (a4 : Int) * 32 + (a5 : Int) / 256) (by omega) (by omega),
    show (64 + (a0 : Int)) % 256 = ((64 + a0 : Nat) : Int) by omega, show ((a4 : Int) * 32 + (a5 : Int) / 256) % 256 = ((a4 * 32 + a5 / 256 : Nat) : Int) by omega, show (a1 : Int) % 256 = ((a1 : Nat) : Int) by omega, show (a2 : Int) / 256 % 256 = ((a2 / 256 : Nat) : Int) by omega, show (a2 : Int) % 256 = ((a2 % 256 : Nat) : Int) by omega,
    show (a3 : Int) / 256 % 256 = ((a3 / 256 : Nat) : Int) by omega, show (a3 : Int) % 256 = ((a3 % 256 : Nat) : Int) by omega, show (a5 : Int) % 256 = ((a5 % 256 : Nat) : Int) by omega, show (a6 : Int) % 256 = ((a6 : Nat) : Int) by omega,
    show (a7 : Int) % 256 = ((a7 : Nat) : Int) by omega, show (a8 : Int) / 256 % 256 = ((a8 / 256 : Nat) : Int) by omega, show (a8 : Int) % 256 = ((a8 % 256 : Nat) : Int) by omega]
  rfl
set_option maxRecDepth 10000 in
set_option maxHeartbeats 6400000 in
theorem rfhwrite_any (f : FourV) (A : Option Addr) (n c : Nat) (os : List Nat) (w : World) (hs : f.src.length = 4) (hd : f.dst.length = 4) (bs : ∀ x ∈ f.src, x < 256) (bd : ∀ x ∈ f.dst, x < 256) (hn : n ≤ 140737488351232) (hR : Row w A n os)
    (hk0 : -9223372036854775808 ≤ f.k0 ∧ f.k0 ≤ 9223372036854775807) :
    Calls Try.prog 24 #[.agg f.cells.toArray, .slice A n c] w (WriteIs f n os w) := by
  obtain ⟨C, hC⟩ : ∃ C, C = f.cells := ⟨_, rfl⟩
  have hCl : C.length = 17 := by rw [hC]; unfold FourV.cells; simp [bcells_length, hs, hd]
  rw [← hC]
  have HC := Lib.hid hC
  have HR := Lib.hid hR
  have HN := Lib.hid hn
  have HS := Lib.hid (And.intro (And.intro hs hd) (And.intro bs bd))
  obtain ⟨V, eV⟩ : ∃ V, V = w.alloc (.cells C.toArray 25) := ⟨_, rfl⟩
  have HA : Hid (ArrV 25 V w.heap.size C) := by show ArrV _ _ _ _; rw [eV]; exact ArrV.new _ w C
  have HB : Hid (Below w.heap.size w V) := by show Below _ _ _; rw [eV]; exact (Below.refl _ _).alloc (Nat.le_refl _) _
  have g : C[0]? = some (.int .i64 f.k0) ∧ C[1]? = some (.int .i64 f.k1) ∧ C[2]? = some (.int .i64 f.k2) ∧ C[3]? = some (.int .i64 f.k3) ∧ C[4]? = some (.int .i64 f.k4) ∧ C[5]? = some (.int .i64 f.k5) ∧ C[6]? = some (.int .i64 f.k6) ∧ C[7]? = some (.int .i64 f.k7) ∧ C[8]? = some (.int .i64 f.k8) := by
    rw [hC]
    exact ⟨rfl, rfl, rfl, rfl, rfl, rfl, rfl, rfl, rfl⟩
  have c0 := (HA.out.get 0).trans g.1
  have c1 := (HA.out.get 1).trans g.2.1
  have c2 := (HA.out.get 2).trans g.2.2.1
  have c3 := (HA.out.get 3).trans g.2.2.2.1
  have c4 := (HA.out.get 4).trans g.2.2.2.2.1
  have c5 := (HA.out.get 5).trans g.2.2.2.2.2.1
  have c6 := (HA.out.get 6).trans g.2.2.2.2.2.2.1
  have c7 := (HA.out.get 7).trans g.2.2.2.2.2.2.2.1
  have c8 := (HA.out.get 8).trans g.2.2.2.2.2.2.2.2
  obtain ⟨q0, hq0⟩ : ∃ q, decide (f.okAt 0) = q := ⟨_, rfl⟩
  obtain ⟨q1, hq1⟩ : ∃ q, decide (f.okAt 1) = q := ⟨_, rfl⟩
  obtain ⟨q2, hq2⟩ : ∃ q, decide (f.okAt 2) = q := ⟨_, rfl⟩
  obtain ⟨q3, hq3⟩ : ∃ q, decide (f.okAt 3) = q := ⟨_, rfl⟩
  obtain ⟨q4, hq4⟩ : ∃ q, decide (f.okAt 4) = q := ⟨_, rfl⟩
  obtain ⟨q5, hq5⟩ : ∃ q, decide (f.okAt 5) = q := ⟨_, rfl⟩
  obtain ⟨q6, hq6⟩ : ∃ q, decide (f.okAt 6) = q := ⟨_, rfl⟩
  obtain ⟨q7, hq7⟩ : ∃ q, decide (f.okAt 7) = q := ⟨_, rfl⟩
  obtain ⟨q8, hq8⟩ : ∃ q, decide (f.okAt 8) = q := ⟨_, rfl⟩
  have K0 : Hid (∀ w, Calls Try.prog 60 #[.int .i64 (wrap64 (f.k0 - 5)), .int .i64 10] w fun e w' => e = .returned (.bool q0) ∧ w = w') := fun w => rfhwithin_any _ _ _ w (by rw [← hq0]; exact decide_eq_decide.2 ((ihl_wrap hk0.1 hk0.2).trans Iff.rfl))
  have K1 : Hid (∀ w, Calls Try.prog 60 #[.int .i64 (f.k1), .int .i64 255] w fun e w' => e = .returned (.bool q1) ∧ w = w') := fun w => rfhwithin_any _ _ _ w (by rw [← hq1]; exact decide_eq_decide.2 Iff.rfl)
  have K2 : Hid (∀ w, Calls Try.prog 60 #[.int .i64 (f.k2), .int .i64 65535] w fun e w' => e = .returned (.bool q2) ∧ w = w') := fun w => rfhwithin_any _ _ _ w (by rw [← hq2]; exact decide_eq_decide.2 Iff.rfl)
  have K3 : Hid (∀ w, Calls Try.prog 60 #[.int .i64 (f.k3), .int .i64 65535] w fun e w' => e = .returned (.bool q3) ∧ w = w') := fun w => rfhwithin_any _ _ _ w (by rw [← hq3]; exact decide_eq_decide.2 Iff.rfl)
  have K4 : Hid (∀ w, Calls Try.prog 60 #[.int .i64 (f.k4), .int .i64 7] w fun e w' => e = .returned (.bool q4) ∧ w = w') := fun w => rfhwithin_any _ _ _ w (by rw [← hq4]; exact decide_eq_decide.2 Iff.rfl)
  have K5 : Hid (∀ w, Calls Try.prog 60 #[.int .i64 (f.k5), .int .i64 8191] w fun e w' => e = .returned (.bool q5) ∧ w = w') := fun w => rfhwithin_any _ _ _ w (by rw [← hq5]; exact decide_eq_decide.2 Iff.rfl)
  have K6 : Hid (∀ w, Calls Try.prog 60 #[.int .i64 (f.k6), .int .i64 255] w fun e w' => e = .returned (.bool q6) ∧ w = w') := fun w => rfhwithin_any _ _ _ w (by rw [← hq6]; exact decide_eq_decide.2 Iff.rfl)
  have K7 : Hid (∀ w, Calls Try.prog 60 #[.int .i64 (f.k7), .int .i64 255] w fun e w' => e = .returned (.bool q7) ∧ w = w') := fun w => rfhwithin_any _ _ _ w (by rw [← hq7]; exact decide_eq_decide.2 Iff.rfl)
  have K8 : Hid (∀ w, Calls Try.prog 60 #[.int .i64 (f.k8), .int .i64 65535] w fun e w' => e = .returned (.bool q8) ∧ w = w') := fun w => rfhwithin_any _ _ _ w (by rw [← hq8]; exact decide_eq_decide.2 Iff.rfl)
  have HQ0 := Lib.hid hq0
  have HQ1 := Lib.hid hq1
  have HQ2 := Lib.hid hq2
  have HQ3 := Lib.hid hq3
  have HQ4 := Lib.hid hq4
  have HQ5 := Lib.hid hq5
  have HQ6 := Lib.hid hq6
  have HQ7 := Lib.hid hq7
  have HQ8 := Lib.hid hq8
  have HBAD : Hid (∀ i, i < 9 → decide (f.okAt i) = false → WriteIs f n os w (.returned (.tuple #[.slice none 0 0, .int .i64 1])) V) := fun i hi h => by
    have hno : ¬ f.fits := fun h9 => of_decide_eq_false h (h9 i hi)
    exact ⟨HB.out, fun _ => rfl, fun h => absurd h hno, fun h => absurd h hno⟩
  have eVI := Lib.hid eV
  have HG := Lib.hid g
  have HK0 := Lib.hid hk0
  clear g hC hR hn hs hd bs bd hk0 hq0 hq1 hq2 hq3 hq4 hq5 hq6 hq7 hq8
  go_enter Try.func24, Try.ntmps24
  go_upto_region 1 with fail
  rw [← eVI.out]
  clear eV
  go_wp2_with fail
  refine (K0.out _).mono ?_
  rintro e w' ⟨rfl, rfl⟩
  cases q0
  · go_wp2_with fail
    go_ret2
    exact HBAD.out 0 (by decide) HQ0.out
  go_wp2_with fail
  refine (K1.out _).mono ?_
  rintro e w' ⟨rfl, rfl⟩
  cases q1
  · go_wp2_with fail
    go_ret2
    exact HBAD.out 1 (by decide) HQ1.out
  go_wp2_with fail
  refine (K2.out _).mono ?_
  rintro e w' ⟨rfl, rfl⟩
  cases q2
  · go_wp2_with fail
    go_ret2
    exact HBAD.out 2 (by decide) HQ2.out
  go_wp2_with fail
  refine (K3.out _).mono ?_
  rintro e w' ⟨rfl, rfl⟩
  cases q3
  · go_wp2_with fail
    go_ret2
    exact HBAD.out 3 (by decide) HQ3.out
  go_wp2_with fail
  refine (K4.out _).mono ?_
  rintro e w' ⟨rfl, rfl⟩
  cases q4
  · go_wp2_with fail
    go_ret2
    exact HBAD.out 4 (by decide) HQ4.out
  go_wp2_with fail
  refine (K5.out _).mono ?_
  rintro e w' ⟨rfl, rfl⟩
  cases q5
  · go_wp2_with fail
    go_ret2
    exact HBAD.out 5 (by decide) HQ5.out
  go_wp2_with fail
  refine (K6.out _).mono ?_
  rintro e w' ⟨rfl, rfl⟩
  cases q6
  · go_wp2_with fail
    go_ret2
    exact HBAD.out 6 (by decide) HQ6.out
  go_wp2_with fail
  refine (K7.out _).mono ?_
  rintro e w' ⟨rfl, rfl⟩
  cases q7
  · go_wp2_with fail
    go_ret2
    exact HBAD.out 7 (by decide) HQ7.out
  go_wp2_with fail
  refine (K8.out _).mono ?_
  rintro e w' ⟨rfl, rfl⟩
  cases q8
  · go_wp2_with fail
    go_ret2
    exact HBAD.out 8 (by decide) HQ8.out
  have HF : Hid f.fits := fun k hk => by
    match k, hk with
    | 0, _ => exact of_decide_eq_true HQ0.out
    | 1, _ => exact of_decide_eq_true HQ1.out
    | 2, _ => exact of_decide_eq_true HQ2.out
    | 3, _ => exact of_decide_eq_true HQ3.out
    | 4, _ => exact of_decide_eq_true HQ4.out
    | 5, _ => exact of_decide_eq_true HQ5.out
    | 6, _ => exact of_decide_eq_true HQ6.out
    | 7, _ => exact of_decide_eq_true HQ7.out
    | 8, _ => exact of_decide_eq_true HQ8.out
  obtain ⟨⟨l0, u0⟩, ⟨l1, u1⟩, ⟨l2, u2⟩, ⟨l3, u3⟩, ⟨l4, v4⟩, ⟨l5, v5⟩, ⟨l6, v6⟩, ⟨l7, v7⟩, ⟨l8, v8⟩⟩ := FourV.fits_all HF.out
  obtain ⟨a0, e0⟩ : ∃ a : Nat, f.k0 = a := ⟨f.k0.toNat, (Int.toNat_of_nonneg (by omega)).symm⟩
  obtain ⟨a1, e1⟩ : ∃ a : Nat, f.k1 = a := ⟨f.k1.toNat, (Int.toNat_of_nonneg (by omega)).symm⟩
  obtain ⟨a2, e2⟩ : ∃ a : Nat, f.k2 = a := ⟨f.k2.toNat, (Int.toNat_of_nonneg (by omega)).symm⟩
  obtain ⟨a3, e3⟩ : ∃ a : Nat, f.k3 = a := ⟨f.k3.toNat, (Int.toNat_of_nonneg (by omega)).symm⟩
  obtain ⟨a4, e4⟩ : ∃ a : Nat, f.k4 = a := ⟨f.k4.toNat, (Int.toNat_of_nonneg (by omega)).symm⟩
  obtain ⟨a5, e5⟩ : ∃ a : Nat, f.k5 = a := ⟨f.k5.toNat, (Int.toNat_of_nonneg (by omega)).symm⟩
  obtain ⟨a6, e6⟩ : ∃ a : Nat, f.k6 = a := ⟨f.k6.toNat, (Int.toNat_of_nonneg (by omega)).symm⟩
  obtain ⟨a7, e7⟩ : ∃ a : Nat, f.k7 = a := ⟨f.k7.toNat, (Int.toNat_of_nonneg (by omega)).symm⟩
  obtain ⟨a8, e8⟩ : ∃ a : Nat, f.k8 = a := ⟨f.k8.toNat, (Int.toNat_of_nonneg (by omega)).symm⟩
  have HBY : Hid (f.bytes os = head12 a0 a1 a2 a3 a4 a5 a6 a7 a8 ++ f.src ++ f.dst ++ os) := by
    show f.bytes os = _
    unfold FourV.bytes
    rw [e0, e1, e2, e3, e4, e5, e6, e7, e8]
    rfl
  have HE0 := Lib.hid e0
  rw [e0] at c0 l0 u0
  rw [e1] at c1 l1 u1
  rw [e2] at c2 l2 u2
  rw [e3] at c3 l3 u3
  rw [e4] at c4 l4 v4
  rw [e5] at c5 l5 v5
  rw [e6] at c6 l6 v6
  rw [e7] at c7 l7 v7
  rw [e8] at c8 l8 v8
  have HL := Lib.hid (show (a0 ≤ 15 ∧ 5 ≤ a0) ∧ a1 ≤ 255 ∧ a2 ≤ 65535 ∧ a3 ≤ 65535 ∧ a4 ≤ 7 ∧ a5 ≤ 8191 ∧ a6 ≤ 255 ∧ a7 ≤ 255 ∧ a8 ≤ 65535 from by omega)
  clear e0 e1 e2 e3 e4 e5 e6 e7 e8 l0 u0 l1 u1 l2 u2 l3 u3 l4 v4 l5 v5 l6 v6 l7 v7 l8 v8
  have w0 : wrap64 (4 * (a0 : Int)) = 4 * (a0 : Int) := w64_in (by omega) (by have := HL.out; omega)
  have w1 : wrap64 (4 * (a0 : Int) - 20) = 4 * (a0 : Int) - 20 := w64_in (by have := HL.out; omega) (by have := HL.out; omega)
  by_cases hne : (n : Int) = 4 * (a0 : Int) - 20
  · have hnb : ((n : Int) != 4 * (a0 : Int) - 20) = false := by rw [hne]; simp
    have HNE := Lib.hid hne
    clear hne
    go_upto_region 6 with fail
    rw [rhead_cells a0 a1 a2 a3 a4 a5 a6 a7 a8 HL.out]
    have hH : (head12 a0 a1 a2 a3 a4 a5 a6 a7 a8).length = 12 := rfl
    have HHB := Lib.hid (head12_byte a0 a1 a2 a3 a4 a5 a6 a7 a8 HL.out)
    obtain ⟨H, hHH⟩ : ∃ H, H = head12 a0 a1 a2 a3 a4 a5 a6 a7 a8 := ⟨_, rfl⟩
    rw [← hHH] at HBY hH HHB ⊢
    obtain ⟨V2, eV2⟩ : ∃ V2, V2 = V.alloc (.cells (bcells H).toArray 5) := ⟨_, rfl⟩
    have B2 : Hid (Below V.heap.size V V2) := by show Below _ _ _; rw [eV2]; exact (Below.refl _ _).alloc (Nat.le_refl _) _
    have RH : Hid (Row V2 (some ⟨V.heap.size, 0, none⟩) 12 H) := by
      show Row _ _ _ _
      have h := (Own.new V H).row HHB.out
      rw [hH, ← eV2] at h
      exact h
    have A2 := Lib.hid (HA.out.below B2.out)
    have RS : Hid (Row V2 (some ⟨w.heap.size, 9, none⟩) 4 f.src ∧ Row V2 (some ⟨w.heap.size, 13, none⟩) 4 f.dst ∧ Row V2 A n os) :=
      ⟨Row.mk HS.out.1.1 HS.out.2.1 fun i hi => (A2.out.get (9 + i)).trans (by rw [HC.out]; exact FourV.at_src HS.out.1.1 i hi), Row.mk HS.out.1.2 HS.out.2.2 fun i hi => (A2.out.get (13 + i)).trans (by rw [HC.out]; exact FourV.at_dst HS.out.1.1 HS.out.1.2 i hi), HR.out.below (below_both HB.out B2.out)⟩
    have BW := Lib.hid (below_both HB.out B2.out)
    have hT : Hid (12 + 4 + 4 + n ≤ 140737488355328) := by show 12 + 4 + 4 + n ≤ _; have := HN.out; omega
    rw [← eV2]
    clear eV2 hHH hH c0 c1 c2 c3 c4 c5 c6 c7 c8 w0 w1
    refine wp_region_still_tail 6 (by kernel_rfl) (by kernel_rfl) ?_
    simp only [List.take_succ_cons, List.take_zero, List.drop_succ_cons, List.drop_zero]
    repeat still_step
    refine wpStill_nil ?_
    change wpList _ _ _ _ _ V2.drew
    obtain ⟨U, eU⟩ : ∃ U, U = V2.drew := ⟨_, rfl⟩
    have BU : Hid (Below w.heap.size w U) := by show Below _ _ _; rw [eU]; exact BW.out.drew
    have RU : Hid (Row U (some ⟨V.heap.size, 0, none⟩) 12 H ∧ Row U (some ⟨w.heap.size, 9, none⟩) 4 f.src ∧ Row U (some ⟨w.heap.size, 13, none⟩) 4 f.dst ∧ Row U A n os) := by
      show _ ∧ _ ∧ _ ∧ _
      rw [eU]
      exact ⟨RH.out, RS.out⟩
    rw [← eU]
    clear eU RH RS BW B2 A2
    go_wp2_with (go_at_call 54; refine (join_four U.heap.size _ _ _ _ _ _ _ _ _ _ _ _ _ _ _ _ _ _ (by rw [cell_of_row _ _ _ _ _ _ (heap_alloc_new U _)]; rfl) (by rw [cell_of_row _ _ _ _ _ _ (heap_alloc_new U _)]; rfl) (by rw [cell_of_row _ _ _ _ _ _ (heap_alloc_new U _)]; rfl) (by rw [cell_of_row _ _ _ _ _ _ (heap_alloc_new U _)]; rfl) (RU.out.1.alloc _) (RU.out.2.1.alloc _) (RU.out.2.2.1.alloc _) (RU.out.2.2.2.alloc _) hT.out).mono ?_; rintro e w' ⟨v, rfl, h1, h2⟩; have O3 := Lib.hid h1; have B3 := Lib.hid h2; clear h1 h2)
    go_ret2
    have hb3 := below_al B3.out
    exact ⟨below_both BU.out hb3, fun h => absurd HF.out h, fun _ h => absurd (by rw [HE0.out]; exact HNE.out) h, fun _ _ => ⟨_, rfl, by rw [HBY.out]; exact O3.out.mono (Nat.le_trans BU.out.size (by simp))⟩⟩
  · have HP : Hid (WriteIs f n os w (.returned (.tuple #[.slice none 0 0, .int .i64 2])) V) :=
      ⟨HB.out, fun h => absurd HF.out h, fun _ _ => rfl, fun _ h => by rw [HE0.out] at h; exact absurd h hne⟩
    have hnb : ((n : Int) != 4 * (a0 : Int) - 20) = true := bne_iff_ne.2 hne
    clear hne
    go_wp2_with fail
    go_ret2
    exact HP.out
end Go.Proofs.Yteldjcdoohafcaa
