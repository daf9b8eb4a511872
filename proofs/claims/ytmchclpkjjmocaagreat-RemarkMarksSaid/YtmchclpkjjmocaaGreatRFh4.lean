/-
  The document's All and Seal of layer 10.
  The document's Seal and Write of layer 10.
-/
import Derived.Test.YtmchclpkjjmocaaGreatRFh2
import Derived.Test.YtmchclpkjjmocaaGreatFh4
import Derived.Deep.CutRange
import Derived.Test.YtmchclpkjjmocaaGreatJoin2
import Derived.Test.YtmchclpkjjmocaaGreatFh11
import Derived.Test.YtmchclpkjjmocaaGreatRegCall
namespace Go.Proofs.YtmchclpkjjmocaaGreat
open Go.RowKit
set_option linter.unusedVariables false

theorem rfh_ints {y m n c : Nat} (hm : m = 4 * y) (h5 : 5 ≤ y) (h15 : y ≤ 15) (hmn : m ≤ n) (hc : n ≤ c) :
    (y : Int) ≤ 15 ∧ (0 : Int) ≤ 4 * (y : Int) ∧ 4 * (y : Int) ≤ (c : Int) ∧ 4 * (y : Int) ≤ (n : Int) ∧ (4 * (y : Int)).toNat = m ∧ wrap64 (4 * (y : Int)) = 4 * (y : Int) ∧ m ≤ 60 ∧ 20 ≤ m := by
  refine ⟨by omega, by omega, by omega, by omega, by omega, w64_in (by omega) (by omega), by omega, by omega⟩
theorem rfh_end {t q y m : Nat} (hm : m = 4 * y) (ht : t < 65536) (hq : q < 8192) (h : m ≤ t) (h15 : y ≤ 15) :
    wrap64 (8 * (q : Int)) = 8 * (q : Int) ∧ wrap64 (8 * (q : Int) + (t : Int)) = 8 * (q : Int) + (t : Int) ∧ wrap64 (8 * (q : Int) + (t : Int) - 4 * (y : Int)) = 8 * (q : Int) + (t : Int) - 4 * (y : Int) ∧ 4 * (y : Int) ≤ (t : Int) ∧
      decide (65535 < 8 * (q : Int) + (t : Int) - 4 * (y : Int)) = decide (m ≤ t ∧ 65535 < 8 * q + t - m) := by
  refine ⟨w64_in (by omega) (by omega), w64_in (by omega) (by omega), w64_in (by omega) (by omega), by omega, ?_⟩
  rw [decide_eq_decide]
  omega
theorem opt_len (b : Bool) (x : Nat) : (if b then [x] else []).length ≤ 1 := by cases b <;> simp
theorem defs_nil_app {B : Nat} {w : World} {v : Value} {L : List Nat} {d : Nat} (q : Bool) (hq : q = true) (h : Defs B w v (L ++ [d])) : Defs B w v (L ++ if q then [d] else []) := by rw [hq]; exact h
theorem defs_app_nil {B : Nat} {w : World} {v : Value} {L : List Nat} {d : Nat} (q : Bool) (hq : q = false) (h : Defs B w v L) : Defs B w v (L ++ if q then [d] else []) := by rw [hq]; simpa using h

set_option maxRecDepth 10000 in
set_option maxHeartbeats 6400000 in
theorem rfhall_any (A : Option Addr) (n c : Nat) (bs : List Nat) (w : World) (hc : n ≤ c) (hc2 : n ≤ 140737488355328) (hR : Row w A n bs) :
    Calls Tryz.prog 58 #[.slice A n c] w (AllIs w (fhall n bs)) := by
  have C := Lib.hid (rfhread_any A n c bs w (by omega) hc hR)
  unfold ReadIs at C
  obtain ⟨X, hX⟩ : ∃ X, X = fhval n bs := ⟨_, rfl⟩
  have hXl : X.length = 17 := by rw [hX]; exact fhval_len n bs
  have hXo : ∀ v ∈ X, v.oneCell' = true := by rw [hX]; exact fhval_one n bs
  rw [← hX] at C
  by_cases h0 : fhdef n bs ≠ 0
  · have hF : fhall n bs = [fhdef n bs] := by unfold fhall; rw [if_neg h0]
    rw [hF]
    obtain ⟨d, hdd⟩ : ∃ d, d = fhdef n bs := ⟨_, rfl⟩
    rw [← hdd] at C h0 ⊢
    have d0 : ((d : Int) != 0) = true := bne_iff_ne.2 (by omega)
    clear hdd hR hc2 hc h0 hF hX
    go_enter Tryz.func58, Tryz.ntmps58
    go_wp2_with fail
    refine C.out.mono ?_
    rintro e w1 ⟨rfl, b1⟩
    obtain ⟨hst, hA, hb⟩ := four_stored w1 X hXl hXo
    have B1 := Lib.hid (below_both b1 hb)
    have A1 := Lib.hid hA
    clear b1 hA hb
    go_upto_region 2 with fail
    clear hst
    obtain ⟨W, eW⟩ : ∃ W, W = (w1.alloc (.cells #[.int .i64 0, .int .i64 0, .int .i64 0, .int .i64 0, .int .i64 0, .int .i64 0, .int .i64 0, .int .i64 0, .int .i64 0, .int .u8 0, .int .u8 0, .int .u8 0, .int .u8 0, .int .u8 0, .int .u8 0, .int .u8 0, .int .u8 0] 63)).setCells w1.heap.size 0 X := ⟨_, rfl⟩
    rw [← eW] at B1 A1 ⊢
    clear eW
    generalize w1.heap.size = gf at *
    have hc := new_cell W (.int .i64 (d : Nat)) 24 W.heap.size rfl
    go_wp2_with fail
    go_ret
    have hc := new_cell W (.int .i64 (d : Nat)) 24 W.heap.size rfl
    refine ⟨_, rfl, ⟨_, 1, rfl, Nat.le_refl _, fun i x hx => ?_⟩, B1.out.alloc B1.out.size _⟩
    have hi : i = 0 := by
      rcases i with _ | i
      · rfl
      · simp at hx
    subst hi
    simp at hx
    subst hx
    exact ⟨W.heap.size, 0, rfl, cell_lt hc, hc⟩
  have h0 : fhdef n bs = 0 := Decidable.of_not_not h0
  rw [h0] at C
  have hF : fhall n bs = fhbad n (4 * (bs.getD 0 0 % 16)) bs (fhopts n bs).isSome (decide (orest (wsum 0 (bs.take (4 * (bs.getD 0 0 % 16)))) = 65535)) := by unfold fhall; rw [if_pos h0]
  rw [hF]
  obtain ⟨_, _, k1, k2, k3⟩ := fhdef_zero h0
  obtain ⟨y, hy⟩ : ∃ y, y = bs.getD 0 0 % 16 := ⟨_, rfl⟩
  have hXf : X = fhf bs := by rw [hX]; unfold fhval; rw [if_pos h0]
  have X0 : Hid (X[0]? = some (.int .i64 (y : Nat))) := by
    show X[0]? = _
    rw [hXf, hy]
    rfl
  obtain ⟨b, o, rfl, _, _⟩ := hR.addr (by omega)
  rw [← hy] at k2 k3 ⊢
  have y15 : y ≤ 15 := by omega
  have y5 : 5 ≤ y := by omega
  obtain ⟨m, hm⟩ : ∃ m, m = 4 * y := ⟨_, rfl⟩
  rw [← hm] at k3 ⊢
  obtain ⟨good, hgood⟩ : ∃ good, decide (orest (wsum 0 (bs.take m)) = 65535) = good := ⟨_, rfl⟩
  have CG : Hid (∀ w, Row w (some ⟨b, o, none⟩) n bs → Calls Tryz.prog 78 #[.slice (some ⟨b, o, none⟩) m c] w fun e w' => e = .returned (.bool good) ∧ w = w') := fun w h => by
    have hp := h.part 0 m (by omega)
    rw [List.drop_zero, Nat.add_zero] at hp
    exact rgood_any (some ⟨b, o, none⟩) m c (bs.take m) good w (by omega) hp hgood
  rw [hgood]
  obtain ⟨os, hos⟩ : ∃ os, os = (fhopts n bs).isSome := ⟨_, rfl⟩
  have CO : Hid (∀ w, Row w (some ⟨b, o, none⟩) n bs → Calls Tryz.prog 77 #[.slice (some ⟨b, o, none⟩) n c] w fun e w' => ∃ v, e = .returned (.tuple #[v, .bool os]) ∧ Below w.heap.size w w') := fun w h => by
    rw [hos]
    exact (rfhoptions_any _ n c bs w hc hc2 h).mono fun _ _ h => opts_two h
  rw [← hos]
  obtain ⟨t, ht⟩ : ∃ t, t = fhw bs 2 := ⟨_, rfl⟩
  obtain ⟨q, hq⟩ : ∃ q, q = fhw bs 6 % 8192 := ⟨_, rfl⟩
  have XX : Hid (X[2]? = some (.int .i64 (t : Nat)) ∧ X[5]? = some (.int .i64 (q : Nat))) := by rw [hXf, ht, hq]; exact ⟨rfl, rfl⟩
  have htl : t < 65536 := by rw [ht]; exact fhw_lt hR.byte 2
  have hql : q < 8192 := by rw [hq]; exact Nat.mod_lt _ (by decide)
  obtain ⟨F, hFF⟩ : ∃ F, F = fhbad n m bs os good := ⟨_, rfl⟩
  rw [← hFF]
  unfold fhbad at hFF
  rw [← ht, ← hq] at hFF
  have HFF := Lib.hid hFF
  have HR := Lib.hid hR
  have HN := Lib.hid (And.intro hm (And.intro htl (And.intro hql y15)))
  obtain ⟨y15I, y0I, ycI, ynI, yN, yW, m60, m20⟩ := rfh_ints hm y5 y15 (show m ≤ n by omega) hc
  have hmn : Hid (m ≤ n) := by show m ≤ n; omega
  obtain ⟨q1, hq1⟩ : ∃ q1, decide ((t : Int) < 4 * (y : Int)) = q1 := ⟨_, rfl⟩
  obtain ⟨q2, hq2⟩ : ∃ q2, decide (n < t) = q2 := ⟨_, rfl⟩
  have E1 : Hid (decide (t < m) = q1) := by show _ = _; rw [← hq1, decide_eq_decide]; omega
  have E2 := Lib.hid hq2
  clear hF hm k1 k2 k3 h0 hR hc hc2 hgood hos hFF ht hq hX hXf hy y15 y5 htl hql m60 m20
  go_enter Tryz.func58, Tryz.ntmps58
  go_wp2_with fail
  refine C.out.mono ?_
  rintro e w1 ⟨rfl, b1⟩
  obtain ⟨hst, hA, hb⟩ := four_stored w1 X hXl hXo
  have B1 := Lib.hid (below_both b1 hb)
  have A1 := Lib.hid hA
  clear b1 hA hb
  go_upto_region 2 with fail
  clear hst
  obtain ⟨W, eW⟩ : ∃ W, W = (w1.alloc (.cells #[.int .i64 0, .int .i64 0, .int .i64 0, .int .i64 0, .int .i64 0, .int .i64 0, .int .i64 0, .int .i64 0, .int .i64 0, .int .u8 0, .int .u8 0, .int .u8 0, .int .u8 0, .int .u8 0, .int .u8 0, .int .u8 0, .int .u8 0] 63)).setCells w1.heap.size 0 X := ⟨_, rfl⟩
  rw [← eW] at B1 A1 ⊢
  clear eW
  generalize w1.heap.size = gf at *
  have x0 : Hid (∀ V, Below W.heap.size W V → V.cell? ⟨gf, 0, none⟩ = some (.int .i64 (y : Nat))) := fun V h => ((A1.out.below h).get 0).trans X0.out
  have x2 : Hid (∀ V, Below W.heap.size W V → V.cell? ⟨gf, 2, none⟩ = some (.int .i64 (t : Nat))) := fun V h => ((A1.out.below h).get 2).trans XX.out.1
  have x5 : Hid (∀ V, Below W.heap.size W V → V.cell? ⟨gf, 5, none⟩ = some (.int .i64 (q : Nat))) := fun V h => ((A1.out.below h).get 5).trans XX.out.2
  have z0 := x0.out W (Below.refl _ _)
  have z2 := x2.out W (Below.refl _ _)
  have DN : Hid (Defs W.heap.size W (.slice none 0 0) []) := Defs.nil _ _
  have BN : Hid (Below W.heap.size W W) := Below.refl _ _
  go_upto_if 22 with fail
  clear z0 z2
  go_cut [5] from 17 to 76 (fun v wx => Defs W.heap.size wx v ([] ++ if q1 then [6] else []) ∧ Below W.heap.size W wx)
  case first =>
    cases q1
    · go_wp2_with fail
      go_meet
      case rel => exact ⟨defs_app_nil _ rfl DN.out, BN.out⟩
    · go_wp2_with (at_builtin; refine wpList_append_def (B := W.heap.size) (W := W) (d := 6) rfl (.tmp 23) (.tmp 24) rfl rfl rfl DN.out BN.out BN.out.size (show ([] : List Nat).length ≤ 1000000 from Nat.zero_le _) ?_; intro v6 w6 ho6 hb6 hs6)
      go_meet
      case rel => exact ⟨defs_nil_app _ rfl ho6, hb6⟩
  case rest =>
    obtain ⟨hd1, hb1⟩ := hcut
    have D1 := Lib.hid hd1
    have B2 := Lib.hid hb1
    obtain ⟨L1, hL1⟩ : ∃ L, L = ([] : List Nat) ++ (if q1 then [6] else []) := ⟨_, rfl⟩
    rw [← hL1] at D1
    have LN1 : Hid (L1.length ≤ 1) := by show L1.length ≤ 1; rw [hL1, List.length_append]; have h1 := opt_len q1 6; simp only [List.length_nil]; omega
    have HL1 := Lib.hid hL1
    clear hd1 hb1 hL1 hq1
    have z2 := x2.out _ B2.out
    go_upto_if 30 with fail
    clear z2
    obtain ⟨V1, eV⟩ : ∃ V, V = wc := ⟨_, rfl⟩
    rw [← eV] at D1 B2 ⊢
    clear eV
    go_cut [5] from 17 to 76 (fun v wx => Defs W.heap.size wx v (L1 ++ if q2 then [7] else []) ∧ Below W.heap.size W wx)
    case first =>
      clear hq2
      cases q2
      · go_wp2_with fail
        go_meet
        case rel => exact ⟨defs_app_nil _ rfl D1.out, B2.out⟩
      · go_wp2_with (at_builtin; refine wpList_append_def (B := W.heap.size) (W := W) (d := 7) rfl (.tmp 31) (.tmp 32) rfl rfl rfl D1.out B2.out B2.out.size (by have := LN1.out; omega) ?_; intro v6 w6 ho6 hb6 hs6)
        go_meet
        case rel => exact ⟨defs_nil_app _ rfl ho6, hb6⟩
    case rest =>
      obtain ⟨hd1, hb1⟩ := hcut
      have D2 := Lib.hid hd1
      have B3 := Lib.hid hb1
      obtain ⟨L2, hL2⟩ : ∃ L, L = L1 ++ (if q2 then [7] else []) := ⟨_, rfl⟩
      rw [← hL2] at D2
      have LN2 : Hid (L2.length ≤ 2) := by show L2.length ≤ 2; rw [hL2, List.length_append]; have h1 := opt_len q2 7; have h2 := LN1.out; omega
      have HL2 := Lib.hid hL2
      clear hd1 hb1 hL2 hq2
      go_wp2_with fail
      refine (CO.out _ (HR.out.below (below_both B1.out B3.out))).mono ?_
      rintro e w4 ⟨ov, rfl, hb4⟩
      have D2 := Lib.hid (D2.out.below hb4)
      have B3 := Lib.hid (below_both B3.out hb4)
      clear hb4
      go_upto_if 40 with fail
      go_cut [5] from 17 to 76 (fun v wx => Defs W.heap.size wx v (L2 ++ if !os then [8] else []) ∧ Below W.heap.size W wx)
      case first =>
        cases os
        · go_wp2_with (at_builtin; refine wpList_append_def (B := W.heap.size) (W := W) (d := 8) rfl (.tmp 41) (.tmp 42) rfl rfl rfl D2.out B3.out B3.out.size (by have := LN2.out; omega) ?_; intro v6 w6 ho6 hb6 hs6)
          go_meet
          case rel => exact ⟨defs_nil_app _ rfl ho6, hb6⟩
        · go_wp2_with fail
          go_meet
          case rel => exact ⟨defs_app_nil _ rfl D2.out, B3.out⟩
      case rest =>
        obtain ⟨hd1, hb1⟩ := hcut
        have D3 := Lib.hid hd1
        have B4 := Lib.hid hb1
        obtain ⟨L3, hL3⟩ : ∃ L, L = L2 ++ (if !os then [8] else []) := ⟨_, rfl⟩
        rw [← hL3] at D3
        have LN3 : Hid (L3.length ≤ 3) := by show L3.length ≤ 3; rw [hL3, List.length_append]; have h1 := opt_len (!os) 8; have h2 := LN2.out; omega
        have HL3 := Lib.hid hL3
        clear hd1 hb1 hL3
        have z0 := x0.out _ B4.out
        go_wp2_with fail
        refine (CG.out _ (HR.out.below (below_both B1.out B4.out))).mono ?_
        rintro e w5 ⟨rfl, rfl⟩
        clear z0
        go_upto_if 50 with fail
        go_cut [5] from 17 to 76 (fun v wx => Defs W.heap.size wx v (L3 ++ if !good then [9] else []) ∧ Below W.heap.size W wx)
        case first =>
          cases good
          · go_wp2_with (at_builtin; refine wpList_append_def (B := W.heap.size) (W := W) (d := 9) rfl (.tmp 51) (.tmp 52) rfl rfl rfl D3.out B4.out B4.out.size (by have := LN3.out; omega) ?_; intro v6 w6 ho6 hb6 hs6)
            go_meet
            case rel => exact ⟨defs_nil_app _ rfl ho6, hb6⟩
          · go_wp2_with fail
            go_meet
            case rel => exact ⟨defs_app_nil _ rfl D3.out, B4.out⟩
        case rest =>
          obtain ⟨hd1, hb1⟩ := hcut
          have D4 := Lib.hid hd1
          have B5 := Lib.hid hb1
          obtain ⟨L4, hL4⟩ : ∃ L, L = L3 ++ (if !good then [9] else []) := ⟨_, rfl⟩
          rw [← hL4] at D4
          have LN4 : Hid (L4.length ≤ 4) := by show L4.length ≤ 4; rw [hL4, List.length_append]; have h1 := opt_len (!good) 9; have h2 := LN3.out; omega
          have FIN : Hid (∀ (z : Bool) (u : World) (v : Value), z = decide (m ≤ t ∧ 65535 < 8 * q + t - m) → Defs W.heap.size u v (L4 ++ if z then [14] else []) → DefRead u v F) := fun z u v hz hn => by
            have e : (L4 ++ if z then [14] else []) = F := by
              rw [hz, HFF.out, hL4, HL3.out, HL2.out, HL1.out, E1.out, E2.out, List.nil_append]
            rw [e] at hn
            exact hn.read
          clear hd1 hb1 hL4
          have z0 := x0.out _ B5.out
          have z2 := x2.out _ B5.out
          have z5 := x5.out _ B5.out
          by_cases hge : m ≤ t
          · obtain ⟨i1, i2, i3, i4, i5⟩ := rfh_end HN.out.1 HN.out.2.1 HN.out.2.2.1 hge HN.out.2.2.2
            obtain ⟨z, hz⟩ : ∃ z, decide (65535 < 8 * (q : Int) + (t : Int) - 4 * (y : Int)) = z := ⟨_, rfl⟩
            have HZ : Hid (z = decide (m ≤ t ∧ 65535 < 8 * q + t - m)) := by show z = _; rw [← hz, i5]
            clear hge i5
            go_upto_if 72 with fail
            clear hz
            cases z
            · go_wp2_with fail
              go_ret
              exact ⟨_, rfl, FIN.out _ _ _ HZ.out (defs_app_nil _ rfl D4.out), below_both B1.out B5.out⟩
            · go_wp2_with (at_builtin; refine wpList_append_def (B := W.heap.size) (W := W) (d := 14) rfl (.tmp 73) (.tmp 74) rfl rfl rfl D4.out B5.out B5.out.size (by have := LN4.out; omega) ?_; intro v6 w6 ho6 hb6 hs6)
              go_ret
              exact ⟨_, rfl, FIN.out _ _ _ HZ.out (defs_nil_app _ rfl ho6), below_both B1.out hb6⟩
          · have g0 : ¬ 4 * (y : Int) ≤ (t : Int) := by have := HN.out.1; omega
            have HZ : Hid (false = decide (m ≤ t ∧ 65535 < 8 * q + t - m)) := by show false = _; rw [decide_eq_false (fun h => hge h.1)]
            clear hge
            go_wp2_with fail
            go_ret
            exact ⟨_, rfl, FIN.out _ _ _ HZ.out (defs_app_nil _ rfl D4.out), below_both B1.out B5.out⟩
end Go.Proofs.YtmchclpkjjmocaaGreat

namespace Go.Proofs.YtmchclpkjjmocaaGreat
open Go.RowKit
set_option linter.unusedVariables false

theorem ihl_wrap {x : Int} (h0 : -9223372036854775808 ≤ x) (h1 : x ≤ 9223372036854775807) : (0 ≤ wrap64 (x - 5) ∧ wrap64 (x - 5) ≤ 10) ↔ (5 ≤ x ∧ x ≤ 15) := by
  unfold wrap64
  omega
set_option maxRecDepth 10000 in
set_option maxHeartbeats 6400000 in
theorem rfhseal_bad (A : Option Addr) (n c : Nat) (bs : List Nat) (w : World) (hc2 : n ≤ 140737488355328) (hc : n ≤ c) (hR : Row w A n bs) (h0 : fhdef n bs ≠ 0) :
    Calls Tryz.prog 19 #[.slice A n c] w fun e w' => e = .returned (.tuple #[.slice none 0 0, .int .i64 3]) ∧ Below w.heap.size w w' := by
  have C := Lib.hid (rfhread_any A n c bs w (by omega) hc hR)
  unfold ReadIs at C
  obtain ⟨X, hX⟩ : ∃ X, X = fhval n bs := ⟨_, rfl⟩
  have hXl : X.length = 17 := by rw [hX]; exact fhval_len n bs
  have hXo : ∀ v ∈ X, v.oneCell' = true := by rw [hX]; exact fhval_one n bs
  rw [← hX] at C
  obtain ⟨d, hdd⟩ : ∃ d, d = fhdef n bs := ⟨_, rfl⟩
  rw [← hdd] at C h0
  have d0 : ((d : Int) != 0) = true := bne_iff_ne.2 (by omega)
  clear hdd hR hc2 hc h0 hX
  go_enter Tryz.func19, Tryz.ntmps19
  go_wp2_with fail
  refine C.out.mono ?_
  rintro e w1 ⟨rfl, b1⟩
  obtain ⟨hst, hA, hb⟩ := four_stored w1 X hXl hXo
  have B1 := Lib.hid (below_both b1 hb)
  have A1 := Lib.hid hA
  clear b1 hA hb
  go_upto_region 2 with fail
  clear hst
  obtain ⟨W, eW⟩ : ∃ W, W = (w1.alloc (.cells #[.int .i64 0, .int .i64 0, .int .i64 0, .int .i64 0, .int .i64 0, .int .i64 0, .int .i64 0, .int .i64 0, .int .i64 0, .int .u8 0, .int .u8 0, .int .u8 0, .int .u8 0, .int .u8 0, .int .u8 0, .int .u8 0, .int .u8 0] 63)).setCells w1.heap.size 0 X := ⟨_, rfl⟩
  rw [← eW] at B1 A1 ⊢
  clear eW
  generalize w1.heap.size = gf at *
  go_wp2_with fail
  go_ret2
  exact ⟨rfl, B1.out⟩
set_option maxRecDepth 10000 in
set_option maxHeartbeats 6400000 in
theorem rfhseal_ok (A : Option Addr) (n c : Nat) (bs : List Nat) (w : World) (hc2 : n ≤ 140737488355328) (hc : n ≤ c) (hR : Row w A n bs) (h0 : fhdef n bs = 0) :
    Calls Tryz.prog 19 #[.slice A n c] w (SealIs w (fhseal bs (4 * (bs.getD 0 0 % 16)))) := by
  have C := Lib.hid (rfhread_any A n c bs w (by omega) hc hR)
  unfold ReadIs at C
  obtain ⟨X, hX⟩ : ∃ X, X = fhval n bs := ⟨_, rfl⟩
  have hXl : X.length = 17 := by rw [hX]; exact fhval_len n bs
  have hXo : ∀ v ∈ X, v.oneCell' = true := by rw [hX]; exact fhval_one n bs
  rw [← hX] at C
  rw [h0] at C
  obtain ⟨_, _, k1, k2, k3⟩ := fhdef_zero h0
  obtain ⟨y, hy⟩ : ∃ y, y = bs.getD 0 0 % 16 := ⟨_, rfl⟩
  have hXf : X = fhf bs := by rw [hX]; unfold fhval; rw [if_pos h0]
  have X0 : Hid (X[0]? = some (.int .i64 (y : Nat))) := by
    show X[0]? = _
    rw [hXf, hy]
    rfl
  obtain ⟨b, o, rfl, _, _⟩ := hR.addr (by omega)
  rw [← hy] at k2 k3 ⊢
  have y15 : y ≤ 15 := by omega
  have y5 : 5 ≤ y := by omega
  obtain ⟨m, hm⟩ : ∃ m, m = 4 * y := ⟨_, rfl⟩
  rw [← hm] at k3 ⊢
  have hmn : m ≤ n := by omega
  have HF : Hid (∀ w, Row w (some ⟨b, o, none⟩) n bs → Calls Tryz.prog 29 #[.slice (some ⟨b, o, none⟩) m c, .int .i64 10] w (TwoTo w (filled (bs.take m) 10) 0)) := fun w h => by
    have hp := h.part 0 m (by omega)
    rw [List.drop_zero, Nat.add_zero] at hp
    exact rfill_ok (some ⟨b, o, none⟩) m c 10 (bs.take m) w (by omega) (by omega) (by decide) (by omega) hp
  have hfl : Hid ((filled (bs.take m) 10).length = m) := by
    show _ = _
    rw [filled_length (by rw [List.length_take, hR.1]; omega), List.length_take, hR.1]
    omega
  have HS : Hid (fhseal bs m = filled (bs.take m) 10 ++ bs.drop m) := rfl
  have HT : Hid (∀ w, Row w (some ⟨b, o, none⟩) n bs → Row w (if c = m then some ⟨b, o, none⟩ else some ⟨b, o + m, none⟩) (n - m) (bs.drop m)) := fun w h => by
    split
    · have hnm : n = m := by omega
      subst hnm
      rw [Nat.sub_self, List.drop_of_length_le (by rw [h.1]; exact Nat.le_refl _)]
      exact Row.nil _ _
    · have hp := h.part m (n - m) (by omega)
      rw [List.take_of_length_le (by rw [List.length_drop, h.1]; exact Nat.le_refl _)] at hp
      exact hp
  generalize filled (bs.take m) 10 = F at *
  obtain ⟨y15I, y0I, ycI, ynI, yN, yW, m60, m20⟩ := rfh_ints hm y5 y15 hmn hc
  have hlen : Hid (m + (n - m) ≤ 140737488355328) := by show m + (n - m) ≤ _; omega
  have HR := Lib.hid hR
  have mI : 4 * (y : Int) = (m : Int) := by omega
  have mcI : (m : Int) ≤ (c : Int) := by omega
  have mnI : (m : Int) ≤ (n : Int) := by omega
  have sI : ((n : Int) - (m : Int)).toNat = n - m := by omega
  clear hm k1 k2 k3 h0 hR hc hc2 hX hXf hy y15 y5 m60 m20 hmn y0I ycI ynI yN yW
  go_enter Tryz.func19, Tryz.ntmps19
  go_wp2_with fail
  refine C.out.mono ?_
  rintro e w1 ⟨rfl, b1⟩
  obtain ⟨hst, hA, hb⟩ := four_stored w1 X hXl hXo
  have B1 := Lib.hid (below_both b1 hb)
  have A1 := Lib.hid hA
  clear b1 hA hb
  go_upto_region 2 with fail
  clear hst
  obtain ⟨W, eW⟩ : ∃ W, W = (w1.alloc (.cells #[.int .i64 0, .int .i64 0, .int .i64 0, .int .i64 0, .int .i64 0, .int .i64 0, .int .i64 0, .int .i64 0, .int .i64 0, .int .u8 0, .int .u8 0, .int .u8 0, .int .u8 0, .int .u8 0, .int .u8 0, .int .u8 0, .int .u8 0] 63)).setCells w1.heap.size 0 X := ⟨_, rfl⟩
  rw [← eW] at B1 A1 ⊢
  clear eW
  generalize w1.heap.size = gf at *
  have R1 := Lib.hid (HR.out.below B1.out)
  have x0 := (A1.out.get 0).trans X0.out
  go_wp2_with fail
  refine (HF.out _ R1.out).mono ?_
  rintro e w2 ⟨v2, rfl, ⟨A2, c2, rfl, hc2, r2⟩, b2⟩
  rw [hfl.out] at r2 ⊢
  have R2 := Lib.hid (R1.out.below b2)
  have F2 := Lib.hid r2
  have x0 := (A1.out.below b2).get 0
  rw [X0.out] at x0
  have B2 := Lib.hid (below_both B1.out b2)
  clear b2 r2 hc2
  have HTW := Lib.hid (HT.out w2 R2.out)
  go_upto_region 5 with fail
  by_cases hcm : c = m
  · subst hcm
    rw [if_pos rfl] at HTW
    go_wp2_with (go_at_call 4; refine (join_two w2.heap.size _ _ _ _ _ _ _ _ _ _ (by rw [cell_of_row _ _ _ _ _ _ (heap_alloc_new w2 _)]; rfl) (by rw [cell_of_row _ _ _ _ _ _ (heap_alloc_new w2 _)]; rfl) (F2.out.alloc _) (HTW.out.alloc _) hlen.out).mono ?_; rintro e w' ⟨v, rfl, h1, h2⟩; have O3 := Lib.hid h1; have B3 := Lib.hid h2; clear h1 h2)
    go_ret2
    have hb3 := below_al B3.out
    rw [HS.out]
    exact ⟨_, rfl, O3.out.mono (Nat.le_trans B2.out.size (by simp)), below_both B2.out hb3⟩
  · rw [if_neg hcm] at HTW
    go_wp2_with (go_at_call 4; refine (join_two w2.heap.size _ _ _ _ _ _ _ _ _ _ (by rw [cell_of_row _ _ _ _ _ _ (heap_alloc_new w2 _)]; rfl) (by rw [cell_of_row _ _ _ _ _ _ (heap_alloc_new w2 _)]; rfl) (F2.out.alloc _) (HTW.out.alloc _) hlen.out).mono ?_; rintro e w' ⟨v, rfl, h1, h2⟩; have O3 := Lib.hid h1; have B3 := Lib.hid h2; clear h1 h2)
    go_ret2
    have hb3 := below_al B3.out
    rw [HS.out]
    exact ⟨_, rfl, O3.out.mono (Nat.le_trans B2.out.size (by simp)), below_both B2.out hb3⟩
end Go.Proofs.YtmchclpkjjmocaaGreat
