/-
  The walk of the statement WholeDrops where at most a hundred pairs came in.
-/
import Derived.Test.YtmgjaghmnnipbaaWWDropsP
namespace Go.Proofs.Ytmgjaghmnnipbaa
open Go.RowKit
set_option linter.unusedVariables false
attribute [local go_sem ↓] Go.wp_at_zero Go.wp_at_succ

set_option maxRecDepth 10000 in
set_option maxHeartbeats 3200000 in
theorem drops_short (l0 r0 : Nat) (A : Option Addr) (len cap : Nat) (L : List (Int × Int)) (w : World) (hl : l0 ≤ 18446744073709551615) (hr : r0 ≤ 18446744073709551615) (hL : RowQ .u32 w A len L) (hlen : len ≤ 140737488351232) (hcap : len ≤ cap) (hgt : ¬ 100 < len) :
    Calls Try.prog 7 #[.int .u64 l0, .int .u64 r0, .slice A len cap] w fun e w' => e = .returned (.bool true) ∧ Below w.heap.size w w' := by
  obtain ⟨N, hN⟩ : ∃ N, N = min len 100 := ⟨_, rfl⟩
  obtain ⟨R, hR⟩ : ∃ R, R = r0 % 4611686018427387904 := ⟨_, rfl⟩
  obtain ⟨n0, hn0⟩ : ∃ n, n = min l0 R := ⟨_, rfl⟩
  have wR : (r0 : Int) % 4611686018427387904 = (R : Int) := by omega
  have CO := Lib.hid (fun (n : Nat) w (h : n ≤ 18446744073709551615) => of_nums n w h)
  have hmin : min (l0 : Int) (R : Int) = (n0 : Int) := by omega
  have HLEN := Lib.hid hlen
  have HN : Hid (N ≤ 100 ∧ N ≤ len) := ⟨by omega, by omega⟩
  have HR : Hid (R < 4611686018427387904 ∧ R ≤ 18446744073709551615) := ⟨by omega, by omega⟩
  have H0 : Hid (n0 ≤ R ∧ n0 ≤ 18446744073709551615) := ⟨by omega, by omega⟩
  have hgti : ¬ (100 : Int) < (len : Int) := by omega
  obtain rfl : len = N := by omega
  clear hl hr hlen hcap hN hR hn0 hgt
  go_enter Try.func7, Try.ntmps7
  go_wp2_with fail
  clear hgti
  refine (CO.out n0 _ H0.out.2).mono ?_
  rintro e w1 ⟨rfl, b1⟩
  have K0 := Lib.hid (((KV.low b1 25 [.int .u64 (whi n0), .int .u64 (wlo n0)]).new 25 [.int .u64 0, .int .u64 0]))
  simp only [World.size_alloc] at K0
  clear b1
  go_wp2_with fail
  generalize hg8 : w1.heap.size = g8 at *
  go_loopw [7, 10] (fun nv i wr => ∃ k n I O : Nat, nv = .int .u64 (n : Nat) ∧ i = .int .i64 (k : Nat) ∧ Hid (k ≤ len) ∧ Hid (DropIs R k n I O) ∧ Hid (KV w [(25, g8, [.int .u64 (whi I), .int .u64 (wlo I)]), (25, g8 + 1, [.int .u64 (whi O), .int .u64 (wlo O)])] wr)) (fun _ i _ => len - (intOf i).toNat)
  case atStart =>
    refine ⟨0, n0, n0, 0, rfl, rfl, Nat.zero_le _, ⟨H0.out.1, rfl, by have := H0.out.1; have := HR.out.1; omega⟩, ?_⟩
    exact K0.out
  case round =>
    obtain ⟨k, n, I, O, rfl, rfl, HK, HD, KK⟩ := hrel
    clear K0
    by_cases hlt : k < len
    · have hkl : k < len := by have := HN.out; omega
      obtain ⟨b, oo, rfl, hb1, hcs⟩ := hL.addr (by omega)
      obtain ⟨hwf1, hwf2⟩ := hL.get hkl
      obtain ⟨x, hx, hx32⟩ := nat_u32w hwf1
      obtain ⟨y, hy, hy32⟩ := nat_u32w hwf2
      have hcx0 := (hcs k hkl).1
      have hcy0 := (hcs k hkl).2
      rw [hx] at hcx0
      rw [hy] at hcy0
      have HB1 : Hid (b < w.heap.size) := hb1
      have HCX := Lib.hid hcx0
      have HCY := Lib.hid hcy0
      have hx32' : x ≤ 18446744073709551615 := Nat.le_trans hx32 (by decide)
      have hy32' : y ≤ 18446744073709551615 := Nat.le_trans hy32 (by decide)
      obtain ⟨q, s, G, z, d, m, J, O1, O2, t, ⟨hq, hs, hG⟩, ⟨hz, hzi, hz3⟩, ⟨hdN, hdI, htC, hmL⟩, ⟨hJ, hO1, hO2, hO3⟩, ⟨wI, wO, wG, ws, wd, wJ, wO1, wO2⟩, ⟨hn64, hq64, hd64⟩, ⟨hqt, hqf⟩, hS⟩ := drop_facts HD.out HR.out.1 (by have := HN.out; omega) hx32 hy32
      have HS := Lib.hid hS
      have CG : Hid (∀ w, Calls Try.prog 8 #[.int .u64 n, .int .u64 R, .int .u64 x, .int .u64 y] w fun e w' => e = .returned (.tuple #[.int .u64 q, .agg #[.int .u64 (whi s), .int .u64 (wlo s)]]) ∧ Below w.heap.size w w') := fun w => bkgrow_any n R x y _ _ q w hn64 HR.out.2 hx32' hy32' hq (by rw [hs]; rfl) (by rw [hs]; rfl)
      have CM : Hid (∀ w, Calls Try.prog 22 #[.int .u64 x, .int .u64 y] w fun e w' => e = .returned (.agg #[.int .u64 (whi G), .int .u64 (wlo G)]) ∧ Below w.heap.size w w') := fun w => by rw [hG]; exact mul_any x y w hx32' hy32'
      have CA := Lib.hid (fun w => add_nums I G J w wI wG hJ wJ)
      have CB := Lib.hid (fun w => add_nums O s O1 w wO ws hO1 wO1)
      have CT : Hid (∀ w, Calls Try.prog 15 #[.int .u64 q, .int .i64 z] w fun e w' => e = .returned (.tuple #[.int .u64 m, .bool t]) ∧ Below w.heap.size w w') := fun w => bktake_any q m (z : Int) t w hq64 hzi hmL htC
      have CN : Hid (∀ w, Calls Try.prog 13 #[.int .i64 z] w fun e w' => e = .returned (.tuple #[.int .u64 d, .bool true]) ∧ Below w.heap.size w w') := fun w => bkneed_any (z : Int) d true w hzi hdN hdI
      have CD := Lib.hid (fun w => CO.out d w hd64)
      have CE : Hid (t = true → ∀ w, Calls Try.prog 19 #[.agg #[.int .u64 (whi O1), .int .u64 (wlo O1)], .agg #[.int .u64 (whi d), .int .u64 (wlo d)]] w fun e w' => e = .returned (.tuple #[.agg #[.int .u64 (whi O2), .int .u64 (wlo O2)], .bool false]) ∧ Below w.heap.size w w') := fun h w => add_nums O1 d O2 w wO1 wd (hO2 h) wO2
      have ux := u32_wrap hx32
      have uy := u32_wrap hy32
      have UZ : Hid ((x : Int).tmod 3000 = (z : Int)) := rem_3000 hz
      obtain ⟨uz2, uz3⟩ := z_wrap hz3
      have uk := k_next (k := k) (by have := HN.out; omega)
      have hlti : (k : Int) < (len : Int) := Int.ofNat_lt.2 hlt
      have HQ : Hid ((t = true → (d : Int) ≤ (q : Int)) ∧ (t = false → ¬ (d : Int) ≤ (q : Int)) ∧ (t = false → O2 = O1)) := ⟨hqt, hqf, hO3⟩
      obtain ⟨I1, hI1⟩ : ∃ v, v = whi I := ⟨_, rfl⟩
      obtain ⟨I2, hI2⟩ : ∃ v, v = wlo I := ⟨_, rfl⟩
      obtain ⟨P1, hP1⟩ : ∃ v, v = whi O := ⟨_, rfl⟩
      obtain ⟨P2, hP2⟩ : ∃ v, v = wlo O := ⟨_, rfl⟩
      obtain ⟨s1, hs1⟩ : ∃ v, v = whi s := ⟨_, rfl⟩
      obtain ⟨s2, hs2⟩ : ∃ v, v = wlo s := ⟨_, rfl⟩
      obtain ⟨G1, hG1⟩ : ∃ v, v = whi G := ⟨_, rfl⟩
      obtain ⟨G2, hG2⟩ : ∃ v, v = wlo G := ⟨_, rfl⟩
      obtain ⟨J1, hJ1⟩ : ∃ v, v = whi J := ⟨_, rfl⟩
      obtain ⟨J2, hJ2⟩ : ∃ v, v = wlo J := ⟨_, rfl⟩
      obtain ⟨Q1, hQ1⟩ : ∃ v, v = whi O1 := ⟨_, rfl⟩
      obtain ⟨Q2, hQ2⟩ : ∃ v, v = wlo O1 := ⟨_, rfl⟩
      obtain ⟨d1, hd1⟩ : ∃ v, v = whi d := ⟨_, rfl⟩
      obtain ⟨d2, hd2⟩ : ∃ v, v = wlo d := ⟨_, rfl⟩
      rw [← hI1, ← hI2, ← hP1, ← hP2] at KK
      rw [← hs1, ← hs2] at CG CB
      rw [← hG1, ← hG2] at CM CA
      rw [← hI1, ← hI2, ← hJ1, ← hJ2] at CA
      rw [← hP1, ← hP2, ← hQ1, ← hQ2] at CB
      rw [← hQ1, ← hQ2, ← hd1, ← hd2] at CE
      rw [← hd1, ← hd2] at CD
      have HJ : Hid (J1 = whi J ∧ J2 = wlo J) := ⟨hJ1, hJ2⟩
      have HQQ : Hid (Q1 = whi O1 ∧ Q2 = wlo O1) := ⟨hQ1, hQ2⟩
      have HLT : Hid (k < len) := hlt
      have K1 := Lib.hid (KK.out.new 25 [.int .u64 0, .int .u64 0])
      clear hkl hb1 hcs hwf1 hwf2 hx hy hx32 hy32 hx32' hy32' hcx0 hcy0 hq hs hG hz hzi hz3 hdN hdI htC hmL hJ hO1 hO2 hO3 wI wO wG ws wd wJ wO1 wO2 hn64 hq64 hd64 hqt hqf hS hI1 hI2 hP1 hP2 hs1 hs2 hG1 hG2 hJ1 hJ2 hQ1 hQ2 hd1 hd2 KK
      go_upto_region 11 with fail
      generalize wr.heap.size = g11 at *
      generalize wr.alloc (.cells #[.int .u64 0, .int .u64 0] 25) = W1 at *
      go_cut [7] from 41 to 58 (fun qq wx => qq = .int .u64 q ∧ Hid (KV w [(25, g8, [.int .u64 I1, .int .u64 I2]), (25, g8 + 1, [.int .u64 P1, .int .u64 P2]), (25, g11, [.int .u64 s1, .int .u64 s2])] wx))
      case first =>
        have hcx : W1.cell? ⟨b, oo + k * 2, none⟩ = some (.int .u32 x) := (K1.out.bel.cell (p := ⟨b, oo + k * 2, none⟩) HB1.out).trans HCX.out
        have hcy : W1.cell? ⟨b, oo + k * 2 + 1, none⟩ = some (.int .u32 y) := (K1.out.bel.cell (p := ⟨b, oo + k * 2 + 1, none⟩) HB1.out).trans HCY.out
        go_region_with (first
          | ((with_reducible refine (CG.out _).mono ?_); rintro e w' ⟨rfl, hb'⟩; have K2 := Lib.hid (K1.out.drew.below hb'); have e0 := (K2.out.at 2 rfl).get 0; have e1 := (K2.out.at 2 rfl).get 1; have f0 := (K2.out.at 2 rfl).frozen 0; have f1 := (K2.out.at 2 rfl).frozen 1; simp at e0 e1)
          | fail)
        all_goals
          go_wp2_with fail
          go_meet
          exact ⟨rfl, K2.out.store 2 rfl [.int .u64 s1, .int .u64 s2] rfl⟩
      case rest =>
        obtain ⟨rfl, K3⟩ := hcut
        go_upto_region 12 with fail
        go_cut [] from 59 to 76 (fun wx => Hid (KV w [(25, g8, [.int .u64 J1, .int .u64 J2]), (25, g8 + 1, [.int .u64 P1, .int .u64 P2]), (25, g11, [.int .u64 s1, .int .u64 s2])] wx))
        case first =>
          have hcx : wc.cell? ⟨b, oo + k * 2, none⟩ = some (.int .u32 x) := (K3.out.bel.cell (p := ⟨b, oo + k * 2, none⟩) HB1.out).trans HCX.out
          have hcy : wc.cell? ⟨b, oo + k * 2 + 1, none⟩ = some (.int .u32 y) := (K3.out.bel.cell (p := ⟨b, oo + k * 2 + 1, none⟩) HB1.out).trans HCY.out
          have i0 := (K3.out.at 0 rfl).get 0
          have i1 := (K3.out.at 0 rfl).get 1
          simp at i0 i1
          go_region_with (first
            | ((with_reducible refine (CM.out _).mono ?_); rintro e w' ⟨rfl, hb'⟩; have K4 := Lib.hid (K3.out.drew.below hb'); have j0 := (K4.out.at 0 rfl).get 0; have j1 := (K4.out.at 0 rfl).get 1; simp at j0 j1)
            | ((with_reducible refine (CA.out _).mono ?_); rintro e w'' ⟨rfl, hb'⟩; have K5 := Lib.hid (K4.out.below hb'); have e0 := (K5.out.at 0 rfl).get 0; have e1 := (K5.out.at 0 rfl).get 1; have f0 := (K5.out.at 0 rfl).frozen 0; have f1 := (K5.out.at 0 rfl).frozen 1; simp at e0 e1)
            | fail)
          all_goals
            go_wp2_with fail
            go_meet
            exact K5.out.store 0 rfl [.int .u64 J1, .int .u64 J2] rfl
        case rest =>
          have K6 := hcut
          have o0 := (K6.out.at 1 rfl).get 0
          have o1 := (K6.out.at 1 rfl).get 1
          have s0 := (K6.out.at 2 rfl).get 0
          have s3 := (K6.out.at 2 rfl).get 1
          simp at o0 o1 s0 s3
          go_wp2_with fail
          refine (CB.out _).mono ?_
          rintro e w3 ⟨rfl, b3⟩
          have K7 := Lib.hid (K6.out.below b3)
          have o2 := (K7.out.at 1 rfl).get 0
          have o3 := (K7.out.at 1 rfl).get 1
          have f2 := (K7.out.at 1 rfl).frozen 0
          have f3 := (K7.out.at 1 rfl).frozen 1
          simp at o2 o3
          have K8 : Hid (KV w [(25, g8, [.int .u64 J1, .int .u64 J2]), (25, g8 + 1, [.int .u64 Q1, .int .u64 Q2]), (25, g11, [.int .u64 s1, .int .u64 s2])] ((w3.setCell ⟨g8 + 1, 0, none⟩ (.int .u64 Q1)).setCell ⟨g8 + 1, 1, none⟩ (.int .u64 Q2))) := K7.out.store 1 rfl [.int .u64 Q1, .int .u64 Q2] rfl
          clear b3 K6 o0 o1 s0 s3 hcut
          go_upto_region 14 with fail
          generalize (w3.setCell ⟨g8 + 1, 0, none⟩ (.int .u64 Q1)).setCell ⟨g8 + 1, 1, none⟩ (.int .u64 Q2) = w4 at *
          clear K7 o2 o3 f2 f3
          refine wp_region_lit ?_
          refine wpList_quiet_all (C := KV w [(25, g8, [.int .u64 J1, .int .u64 J2]), (25, g8 + 1, [.int .u64 Q1, .int .u64 Q2]), (25, g11, [.int .u64 s1, .int .u64 s2])]) K8.out ?_
          iterate 4 (first | (go_big_quiet_want; go_big_quiet_op; go_big_quiet_on) | (go_big_quiet_want; go_big_quiet_op; apply Exists.intro; refine ⟨fun w' hw' => rfl, ?_⟩; go_big_quiet_on))
          (go_big_quiet_want; apply Exists.intro; refine ⟨fun w' hw' => quietAt_at rfl rfl one_u32 ((hw'.bel.cell (p := ⟨b, oo + k * 2, none⟩) HB1.out).trans HCX.out), ?_⟩; simp only [Act.put, List.setIfInBounds_toArray, List.set_cons_zero, List.set_cons_succ]; go_big_quiet_on)
          (go_big_quiet_want; apply Exists.intro; refine ⟨fun w' hw' => quietAt_run (v := .int .u32 (z : Nat)) (by simp [execOp, go_sem, binOp, UZ.out]), ?_⟩; simp only [Act.put, List.setIfInBounds_toArray, List.set_cons_zero, List.set_cons_succ]; go_big_quiet_on)
          (go_big_quiet_want; apply Exists.intro; refine ⟨fun w' hw' => quietAt_run (v := .int .i64 (z : Nat)) (by simp [execOp, go_sem, uz3]), ?_⟩; simp only [Act.put, List.setIfInBounds_toArray, List.set_cons_zero, List.set_cons_succ]; go_big_quiet_on)
          (go_big_quiet_want; go_big_quiet_op; go_big_quiet_on)
          refine wpQuiet_nil ?_
          intro w9 hw9
          have K8 := Lib.hid hw9
          clear hw9
          go_wp2_with fail
          refine (CT.out _).mono ?_
          rintro e w5 ⟨rfl, b5⟩
          have K9 := Lib.hid (K8.out.below b5)
          clear b5 K8
          go_wp2_with fail
          refine (CN.out _).mono ?_
          rintro e w6 ⟨rfl, b6⟩
          have K10 := Lib.hid (K9.out.below b6)
          clear b6 K9
          cases t with
          | false =>
            have hdq := HQ.out.2.1 rfl
            obtain rfl := HQ.out.2.2 rfl
            go_wp2_with fail
            go_roundw
            case rel => exact ⟨k + 1, m, J, O2, rfl, by go_num, HLT.out, HS.out, by rw [← HJ.out.1, ← HJ.out.2, ← HQQ.out.1, ← HQQ.out.2]; exact K10.out.pick [0, 1] (by simp) rfl (by intro z hz; simp at hz; rcases hz with rfl | rfl <;> rfl)⟩
            case measure => first | exact drop_meas HLT.out | (rw [uk]; exact drop_meas HLT.out) | (trace_state; sorry)
          | true =>
            have hdq := HQ.out.1 rfl
            have CE1 := Lib.hid (CE.out rfl)
            obtain ⟨R1, hR1⟩ : ∃ v, v = whi O2 := ⟨_, rfl⟩
            obtain ⟨R2, hR2⟩ : ∃ v, v = wlo O2 := ⟨_, rfl⟩
            rw [← hR1, ← hR2] at CE1
            have HRR : Hid (R1 = whi O2 ∧ R2 = wlo O2) := ⟨hR1, hR2⟩
            have o0 := (K10.out.at 1 rfl).get 0
            have o1 := (K10.out.at 1 rfl).get 1
            have f2 := (K10.out.at 1 rfl).frozen 0
            have f3 := (K10.out.at 1 rfl).frozen 1
            simp at o0 o1
            clear hR1 hR2 CE
            go_upto_region 20 with fail
            go_region_with (first
              | ((with_reducible refine (CD.out _).mono ?_); rintro e w7 ⟨rfl, hb'⟩; have K10 := Lib.hid (K10.out.drew.below hb'); have o0 := (K10.out.at 1 rfl).get 0; have o1 := (K10.out.at 1 rfl).get 1; simp at o0 o1)
              | ((with_reducible refine (CE1.out _).mono ?_); rintro e w8 ⟨rfl, hb'⟩; have K10 := Lib.hid (K10.out.below hb'); have o0 := (K10.out.at 1 rfl).get 0; have o1 := (K10.out.at 1 rfl).get 1; have f2 := (K10.out.at 1 rfl).frozen 0; have f3 := (K10.out.at 1 rfl).frozen 1; simp at o0 o1)
              | fail)
            all_goals
              have K11 := Lib.hid (K10.out.store 1 rfl [.int .u64 R1, .int .u64 R2] rfl)
              go_wp2_with fail
              go_roundw
              case rel => exact ⟨k + 1, m, J, O2, rfl, by go_num, HLT.out, HS.out, by rw [← HJ.out.1, ← HJ.out.2, ← HRR.out.1, ← HRR.out.2]; exact K11.out.pick [0, 1] (by simp) rfl (by intro z hz; simp at hz; rcases hz with rfl | rfl <;> rfl)⟩
              case measure => first | exact drop_meas HLT.out | (rw [uk]; exact drop_meas HLT.out) | (trace_state; sorry)
    · obtain rfl : k = len := by have := HK.out; omega
      have hw1 := HD.out.w (k := k) HN.out.1
      have CS := Lib.hid (fun w => sub_nums I O n w hw1.1 (by have := HD.out.io; omega) (by have := HD.out.io; omega))
      have CF : Hid (∀ w, Calls Try.prog 10 #[.int .u64 2] w fun e w' => e = .returned (.tuple #[.int .u64 2000000000, .int .i64 0]) ∧ Below w.heap.size w w') := fun w => bkfull_ok 2 2000000000 w (by decide) (by decide : 2000000000 = 1000000000 * 2)
      have hn64 : n ≤ 18446744073709551615 := by have := HD.out.nle; have := HR.out.2; omega
      have CO2 := Lib.hid (fun w => CO.out n w hn64)
      have hnR : (n : Int) ≤ (R : Int) := by have := HD.out.nle; omega
      obtain ⟨I1, hI1⟩ : ∃ v, v = whi I := ⟨_, rfl⟩
      obtain ⟨I2, hI2⟩ : ∃ v, v = wlo I := ⟨_, rfl⟩
      obtain ⟨P1, hP1⟩ : ∃ v, v = whi O := ⟨_, rfl⟩
      obtain ⟨P2, hP2⟩ : ∃ v, v = wlo O := ⟨_, rfl⟩
      obtain ⟨n1, hn1⟩ : ∃ v, v = whi n := ⟨_, rfl⟩
      obtain ⟨n2, hn2⟩ : ∃ v, v = wlo n := ⟨_, rfl⟩
      rw [← hI1, ← hI2, ← hP1, ← hP2] at KK CS
      rw [← hn1, ← hn2] at CS CO2
      clear hlt hw1 hn64 hI1 hI2 hP1 hP2 hn1 hn2
      have i0 := (KK.out.at 0 rfl).get 0
      have i1 := (KK.out.at 0 rfl).get 1
      have o0 := (KK.out.at 1 rfl).get 0
      have o1 := (KK.out.at 1 rfl).get 1
      simp at i0 i1 o0 o1
      go_wp2_with fail
      refine (CS.out _).mono ?_
      rintro e w3 ⟨rfl, b3⟩
      have K1 := Lib.hid ((KK.out.below b3).new 25 [.int .u64 n1, .int .u64 n2])
      clear b3 KK i0 i1 o0 o1
      go_wp2_with fail
      refine (CF.out _).mono ?_
      rintro e w4 ⟨rfl, b4⟩
      have K2 := Lib.hid (K1.out.below b4)
      clear b4 K1
      go_upto_region 24 with fail
      generalize w3.heap.size = g17 at *
      go_region_held3 (fun W => W.cell? ⟨g17, 0, none⟩ = some (.int .u64 n1) ∧ W.cell? ⟨g17, 1, none⟩ = some (.int .u64 n2)) (first | exact ⟨(K2.out.at 2 rfl).get 0, (K2.out.at 2 rfl).get 1⟩ | go_keep)
        (first
          | (go_at_call 21; (with_reducible refine (CO2.out _).mono ?_); rintro e w' ⟨rfl, hb'⟩; have K2 := Lib.hid (K2.out.drew.below hb'))
          | fail)
      go_wp2_with fail
      go_ret
      exact ⟨by simp, K2.out.bel⟩
end Go.Proofs.Ytmgjaghmnnipbaa
