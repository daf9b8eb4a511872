/-
  The document's Least.
-/
import Derived.Test.YtemgnaalmgkfiaaRCu2
namespace Go.Proofs.Ytemgnaalmgkfiaa
open Go.RowKit
set_option linter.unusedVariables false
attribute [local go_sem ↓] Go.wp_at_zero Go.wp_at_succ
theorem cuUp_small {L : List Sm} {n : Nat} (r : Nat) (hg : cuGood L n) (hn : n ≤ 1048576) {j i : Nat} (hj : j < n) (hi : i ≤ j + 1) : cuUp L r j (cuMost L r j) i < w128 := by
  have hb : ∀ k, k < n → cuExc L r k ≤ w128 - 1 := fun k hk => by have := exc_small r hg hn hk; omega
  have h1 : cuMost L r j ≤ w128 - 1 := cuMost_le fun k hk => hb k (by omega)
  have h2 : cuUp L r j (cuMost L r j) i ≤ w128 - 1 := cuUp_le h1 fun k hk => Nat.le_trans (cuExc_ge L r j (by omega)) (hb j hj)
  have : 0 < w128 := by decide
  omega
theorem cuMost_small {L : List Sm} {n : Nat} (r : Nat) (hg : cuGood L n) (hn : n ≤ 1048576) : cuMost L r n < w128 := by
  have hb : ∀ k, k < n → cuExc L r k ≤ w128 - 1 := fun k hk => by have := exc_small r hg hn hk; omega
  have h1 : cuMost L r n ≤ w128 - 1 := cuMost_le hb
  have : 0 < w128 := by decide
  omega
/-- What Least tells. -/
def cuLeast (L : List Sm) (r : Nat) : Nat := if cuBad L = none then wlo (cuBurst (cuMost L r L.length)) else 0

set_option maxRecDepth 10000 in
set_option maxHeartbeats 1600000 in
theorem rleast_bad (A : Option Addr) (n cap q : Nat) (r : Nat) (w : World) (CC : Hid (∀ w', Below w.heap.size w w' → Calls Try.prog 24 #[.slice A n cap] w' fun e w'' => e = .returned (.agg #[.int .i64 1, .int .i64 (q : Nat)]) ∧ Below w'.heap.size w' w'')) :
    Calls Try.prog 12 #[.slice A n cap, .int .u64 r] w fun e w' => e = .returned (.tuple #[.int .u64 0, .agg #[.int .i64 1, .int .i64 (q : Nat)]]) ∧ Below w.heap.size w w' := by
  go_enter Try.func12, Try.ntmps12
  have K0 := Lib.hid (KV.one w 26 [.int .i64 0, .int .i64 0])
  go_wp2_with fail
  refine (CC.out _ K0.out.bel).mono ?_
  rintro e w1 ⟨rfl, b1⟩
  have K1 := Lib.hid ((K0.out.below b1).new 26 [.int .i64 1, .int .i64 (q : Nat)])
  clear b1 K0 CC
  have m0 := (K1.out.at 1 rfl).get 0
  simp at m0
  go_upto_region 3 with fail
  generalize w1.heap.size = g1 at *
  generalize w1.alloc (.cells #[.int .i64 1, .int .i64 (q : Int)] 26) = W at *
  have d0 := (K1.out.at 1 rfl).get 0
  have d1 := (K1.out.at 1 rfl).get 1
  have f0 := (K1.out.at 0 rfl).frozen 0
  have f1 := (K1.out.at 0 rfl).frozen 1
  have r0 := (K1.out.at 0 rfl).get 0
  have r1 := (K1.out.at 0 rfl).get 1
  simp at d0 d1 r0 r1
  have K2 := Lib.hid (K1.out.drew.store 0 rfl [.int .i64 1, .int .i64 (q : Int)] rfl)
  have s0 : ((W.setCell ⟨w.heap.size, 0, none⟩ (.int .i64 1)).setCell ⟨w.heap.size, 1, none⟩ (.int .i64 (q : Int))).drew.cell? ⟨w.heap.size, 0, none⟩ = some (.int .i64 1) := (K2.out.at 0 rfl).get 0
  have s1 : ((W.setCell ⟨w.heap.size, 0, none⟩ (.int .i64 1)).setCell ⟨w.heap.size, 1, none⟩ (.int .i64 (q : Int))).drew.cell? ⟨w.heap.size, 1, none⟩ = some (.int .i64 (q : Int)) := (K2.out.at 0 rfl).get 1
  have e0 : ((W.setCell ⟨w.heap.size, 0, none⟩ (.int .i64 1)).setCell ⟨w.heap.size, 1, none⟩ (.int .i64 (q : Int))).drew.cell? ⟨g1, 0, none⟩ = some (.int .i64 1) := (K2.out.at 1 rfl).get 0
  have e1 : ((W.setCell ⟨w.heap.size, 0, none⟩ (.int .i64 1)).setCell ⟨w.heap.size, 1, none⟩ (.int .i64 (q : Int))).drew.cell? ⟨g1, 1, none⟩ = some (.int .i64 (q : Int)) := (K2.out.at 1 rfl).get 1
  go_region_held3 (fun W => (W.cell? ⟨g1, 0, none⟩ = some (.int .i64 1) ∧ W.cell? ⟨g1, 1, none⟩ = some (.int .i64 (q : Int)))) (first | exact ⟨d0, d1⟩ | exact ⟨e0, e1⟩ | go_keep) (fail)
  go_wp2_with fail
  exact bodyPost_ret (v := .tuple #[.int .u64 0, .agg #[.int .i64 1, .int .i64 (q : Int)]]) (by simp [results, Try.results12, go_sem, s0, s1]) rfl ⟨rfl, K2.out.bel⟩

set_option maxRecDepth 10000 in
set_option maxHeartbeats 4000000 in
theorem rleast_ok (A : Option Addr) (n cap : Nat) (L : List Sm) (r : Nat) (w : World) (hn : n ≤ 1000) (hg : cuGood L n) (hr : r ≤ 18446744073709551615) (hcap : n ≤ cap) (hA : SmRow w A n L)
    (CC : Hid (∀ w', Below w.heap.size w w' → Calls Try.prog 24 #[.slice A n cap] w' fun e w'' => e = .returned (.agg #[.int .i64 0, .int .i64 0]) ∧ Below w'.heap.size w' w'')) :
    Calls Try.prog 12 #[.slice A n cap, .int .u64 r] w fun e w' => e = .returned (.tuple #[.int .u64 (wlo (cuBurst (cuMost L r n)) : Nat), .agg #[.int .i64 0, .int .i64 0]]) ∧ Below w.heap.size w w' := by
  have CO := Lib.hid (fun (i j : Nat) (hij : i ≤ j) (hj : j < n) w' (h : SmRow w' A n L) => rover_any A n cap L r i j w' hn hij hj hr hg hcap h)
  have HSM := Lib.hid (fun j (hj : j < n) => exc_small r hg (by omega) hj)
  have HUP := Lib.hid (fun j i (hj : j < n) (hi : i ≤ j + 1) => cuUp_small r hg (by omega) hj hi)
  have HMO := Lib.hid (cuMost_small r hg (by omega))
  have HA := Lib.hid hA
  have HN : Hid ((n : Int) ≤ 17592186043904) := (by omega : (n : Int) ≤ 17592186043904)
  clear hn hg hr hA hcap
  go_enter Try.func12, Try.ntmps12
  have K0 := Lib.hid (KV.one w 26 [.int .i64 0, .int .i64 0])
  go_wp2_with fail
  refine (CC.out _ K0.out.bel).mono ?_
  rintro e w1 ⟨rfl, b1⟩
  have K1 := Lib.hid ((K0.out.below b1).new 26 [.int .i64 0, .int .i64 0])
  clear b1 K0 CC
  have m0 := (K1.out.at 1 rfl).get 0
  simp at m0
  have K2 := Lib.hid ((K1.out.new 42 [.int .u64 0, .int .u64 0]).pick [0, 2] (by decide) (L' := [(26, w.heap.size, [.int .i64 0, .int .i64 0]), (42, (w1.alloc (.cells #[.int .i64 0, .int .i64 0] 26)).heap.size, [.int .u64 0, .int .u64 0])]) rfl (fun q hq => by simp at hq; rcases hq with rfl | rfl <;> simp))
  simp only [World.size_alloc] at K2
  clear K1
  go_upto_region 5 with fail
  generalize w1.heap.size + 1 = g7 at *
  go_wp2_with fail
  go_loopw [8] (fun vj wr => ∃ j a b : Nat, j ≤ n ∧ vj = .int .i64 (j : Int) ∧ Hid (a = whi (cuMost L r j) ∧ b = wlo (cuMost L r j)) ∧ KV w [(26, w.heap.size, [.int .i64 0, .int .i64 0]), (42, g7, [.int .u64 a, .int .u64 b])] wr) (fun vj _ => n - (intOf vj).toNat)
  case atStart => exact ⟨0, 0, 0, Nat.zero_le _, rfl, (⟨by simp [cuMost, whi], by simp [cuMost, wlo]⟩ : 0 = whi (cuMost L r 0) ∧ 0 = wlo (cuMost L r 0)), K2.out⟩
  case round =>
    clear K2 m0
    obtain ⟨j, a, b, hj, rfl, hab, hK⟩ := hrel
    have HK := Lib.hid hK
    clear hK
    by_cases hlt : j < n
    · obtain ⟨W0, hW0⟩ : ∃ W, W = wr := ⟨_, rfl⟩
      rw [← hW0] at HK ⊢
      have HLT := Lib.hid hlt
      have uj := cu_next hlt HN.out
      have hjn : (j : Int) < (n : Int) := by omega
      clear hW0 hlt hj
      go_wp2_with fail
      go_loopw [9] (fun vi wr => ∃ i a b : Nat, i ≤ j + 1 ∧ vi = .int .i64 (i : Int) ∧ Hid (a = whi (cuUp L r j (cuMost L r j) i) ∧ b = wlo (cuUp L r j (cuMost L r j) i)) ∧ KV w [(26, w.heap.size, [.int .i64 0, .int .i64 0]), (42, g7, [.int .u64 a, .int .u64 b])] wr) (fun vi _ => j + 1 - (intOf vi).toNat)
      case atStart => exact ⟨0, a, b, Nat.zero_le _, rfl, hab, HK.out⟩
      case round =>
        clear HK hab a b
        obtain ⟨i, a, b, hi, rfl, hab, hK⟩ := hrel
        have HK := Lib.hid hK
        clear hK
        by_cases hlt2 : i ≤ j
        · have hij : (i : Int) ≤ (j : Int) := by omega
          obtain ⟨O, hO⟩ : ∃ O, O = cuOver L r i j := ⟨_, rfl⟩
          obtain ⟨ox, hox⟩ : ∃ x, x = whi O := ⟨_, rfl⟩
          obtain ⟨oy, hoy⟩ : ∃ x, x = wlo O := ⟨_, rfl⟩
          obtain ⟨M, hM⟩ : ∃ x, x = cuUp L r j (cuMost L r j) i := ⟨_, rfl⟩
          have hup : cuUp L r j (cuMost L r j) (i + 1) = max M O := by rw [hM, hO]; rfl
          have hM1 : M < w128 := by rw [hM]; exact HUP.out j i HLT.out hi
          have habx := hab.out
          rw [← hM] at habx
          have CO2 : Hid (∀ w', SmRow w' A n L → Calls Try.prog 27 #[.slice A n cap, .int .u64 r, .int .i64 (i : Int), .int .i64 (j : Int)] w' fun e w'' => e = .returned (.agg #[.int .u64 ox, .int .u64 oy]) ∧ Below w'.heap.size w' w'') := by rw [hox, hoy, hO]; exact fun w' h => CO.out i j hlt2 HLT.out w' h
          have hO1 : O < w128 := by rw [hO]; exact Nat.lt_of_le_of_lt (cuExc_ge L r j hlt2) (HSM.out j HLT.out)
          have CL : Hid (∀ w, Calls Try.prog 25 #[.agg #[.int .u64 a, .int .u64 b], .agg #[.int .u64 ox, .int .u64 oy]] w fun e w' => e = .returned (.bool (decide (M < O))) ∧ Below w.heap.size w w') := by rw [habx.1, habx.2, hox, hoy]; exact fun w => rless_nums M O w hM1 hO1
          have ui := cu_next (k := i) (n := j + 1) (by omega) (by have := HLT.out; have := HN.out; omega)
          have HI2 := Lib.hid hlt2
          have ra := Lib.hid (HA.out.below HK.out.bel)
          have HOX : Hid (ox = whi O ∧ oy = wlo O) := ⟨hox, hoy⟩
          have HABX := Lib.hid habx
          by_cases hmo : M < O
          · rw [decide_eq_true hmo] at CL
            have HMX : Hid (cuUp L r j (cuMost L r j) (i + 1) = O) := by show _ = O; rw [hup]; exact Nat.max_eq_right (Nat.le_of_lt hmo)
            clear hO hox hoy hO1 hi hlt2 hmo hM hup hM1 habx hab
            go_upto_region 12 with (first | (go_at_call 27; refine (CO2.out _ ra.out).mono ?_; rintro e w3 ⟨rfl, b3⟩) | fail)
            have K3 := Lib.hid ((HK.out.below b3).new 42 [.int .u64 ox, .int .u64 oy])
            simp only [List.cons_append, List.nil_append] at K3
            clear b3 ra HK
            generalize w3.heap.size = g3 at *
            generalize w3.alloc (.cells #[.int .u64 (ox : Int), .int .u64 (oy : Int)] 42) = W3 at *
            have a0 := (K3.out.at 1 rfl).get 0
            have a1 := (K3.out.at 1 rfl).get 1
            have c0 := (K3.out.at 2 rfl).get 0
            have c1 := (K3.out.at 2 rfl).get 1
            simp at a0 a1 c0 c1
            go_upto_region 13 with (first | (go_at_call 25; refine (CL.out _).mono ?_; rintro e w4 ⟨rfl, b4⟩) | fail)
            have K4 := Lib.hid (K3.out.below b4)
            clear b4 K3 a0 a1 c0 c1
            have c0 := (K4.out.at 2 rfl).get 0
            have c1 := (K4.out.at 2 rfl).get 1
            have f0 := (K4.out.at 1 rfl).frozen 0
            have f1 := (K4.out.at 1 rfl).frozen 1
            have r0 := (K4.out.at 1 rfl).get 0
            have r1 := (K4.out.at 1 rfl).get 1
            simp at c0 c1 r0 r1
            have KE := Lib.hid (K4.out.store 1 rfl [.int .u64 ox, .int .u64 oy] rfl)
            go_wp2_with fail
            go_roundw
            case rel => exact ⟨i + 1, ox, oy, by have := HI2.out; omega, by rw [ui], (by rw [HMX.out]; exact HOX.out : ox = whi (cuUp L r j (cuMost L r j) (i + 1)) ∧ oy = wlo (cuUp L r j (cuMost L r j) (i + 1))), KE.out.pick [0, 1] (by decide) rfl (fun q hq => by simp at hq; rcases hq with rfl | rfl <;> rfl)⟩
            case measure => rw [ui]; have hms := HI2.out; simp [intOf]; omega
          · rw [decide_eq_false hmo] at CL
            have HMX : Hid (cuUp L r j (cuMost L r j) (i + 1) = M) := by show _ = M; rw [hup]; exact Nat.max_eq_left (Nat.not_lt.1 hmo)
            clear hO hox hoy hO1 hi hlt2 hmo hM hup hM1 habx hab
            go_upto_region 12 with (first | (go_at_call 27; refine (CO2.out _ ra.out).mono ?_; rintro e w3 ⟨rfl, b3⟩) | fail)
            have K3 := Lib.hid ((HK.out.below b3).new 42 [.int .u64 ox, .int .u64 oy])
            simp only [List.cons_append, List.nil_append] at K3
            clear b3 ra HK
            generalize w3.heap.size = g3 at *
            generalize w3.alloc (.cells #[.int .u64 (ox : Int), .int .u64 (oy : Int)] 42) = W3 at *
            have a0 := (K3.out.at 1 rfl).get 0
            have a1 := (K3.out.at 1 rfl).get 1
            have c0 := (K3.out.at 2 rfl).get 0
            have c1 := (K3.out.at 2 rfl).get 1
            simp at a0 a1 c0 c1
            go_wp2_with (first | (go_at_call 25; refine (CL.out _).mono ?_; rintro e w4 ⟨rfl, b4⟩) | fail)
            go_roundw
            case rel => exact ⟨i + 1, a, b, by have := HI2.out; omega, by rw [ui], (by rw [HMX.out]; exact HABX.out : a = whi (cuUp L r j (cuMost L r j) (i + 1)) ∧ b = wlo (cuUp L r j (cuMost L r j) (i + 1))), (K3.out.below b4).pick [0, 1] (by decide) rfl (fun q hq => by simp at hq; rcases hq with rfl | rfl <;> rfl)⟩
            case measure => rw [ui]; have hms := HI2.out; simp [intOf]; omega
        · obtain rfl : i = j + 1 := by omega
          have hij : ¬ ((j + 1 : Nat) : Int) ≤ (j : Int) := by omega
          have HAB2 : Hid (a = whi (cuMost L r (j + 1)) ∧ b = wlo (cuMost L r (j + 1))) := by rw [← cuUp_all]; exact hab.out
          clear hi hlt2 hab
          go_wp2_with fail
          go_roundw
          case rel => exact ⟨j + 1, a, b, HLT.out, by rw [uj], HAB2.out, HK.out⟩
          case measure => rw [uj]; have hms := HLT.out; simp [intOf]; omega
    · obtain rfl : j = n := by omega
      clear hj hlt
      obtain ⟨M, hM⟩ : ∃ x, x = cuMost L r j := ⟨_, rfl⟩
      rw [← hM] at hab HMO
      have hM1 := HMO
      have HMM : Hid (cuMost L r j = M) := hM.symm
      clear hM
      obtain ⟨Q0, hQ0⟩ : ∃ x, x = M / 1000000000 := ⟨_, rfl⟩
      obtain ⟨R0, hR0⟩ : ∃ x, x = M % 1000000000 := ⟨_, rfl⟩
      obtain ⟨qx, hqx⟩ : ∃ x, x = whi Q0 := ⟨_, rfl⟩
      obtain ⟨qy, hqy⟩ : ∃ x, x = wlo Q0 := ⟨_, rfl⟩
      have hQ1 : Q0 < w128 := by rw [hQ0]; exact Nat.lt_of_le_of_lt (Nat.div_le_self _ _) hM1.out
      have CD : Hid (∀ w, Calls Try.prog 30 #[.agg #[.int .u64 a, .int .u64 b], .int .u64 1000000000] w fun e w' => e = .returned (.tuple #[.agg #[.int .u64 qx, .int .u64 qy], .int .u64 R0]) ∧ Below w.heap.size w w') := by rw [hab.out.1, hab.out.2, hqx, hqy, hQ0, hR0]; exact fun w => rdiv_any _ _ 1000000000 M w (by decide) (nums_back hM1.out).symm (whi_word M) (wlo_word M) (by decide)
      have z0 := (HK.out.at 1 rfl).get 0
      have z1 := (HK.out.at 1 rfl).get 1
      simp at z0 z1
      obtain ⟨tt, htt⟩ : ∃ x, x = decide ((0 : Int) < (R0 : Int)) := ⟨_, rfl⟩
      by_cases hR : 0 < R0
      · have hri : (0 : Int) < (R0 : Int) := by omega
        have hB1 : Q0 + 1 < w128 := by have := hM1.out; rw [hQ0]; unfold w128 at this ⊢; omega
        obtain ⟨x, hx⟩ : ∃ z, z = whi (Q0 + 1) := ⟨_, rfl⟩
        obtain ⟨y, hy⟩ : ∃ z, z = wlo (Q0 + 1) := ⟨_, rfl⟩
        have HB : Hid (cuBurst M = Q0 + 1) := by show cuBurst M = Q0 + 1; unfold cuBurst; rw [← hR0, if_pos hR, hQ0]
        have CO : Hid (∀ w, Calls Try.prog 32 #[.int .u64 1] w fun e w' => e = .returned (.agg #[.int .u64 0, .int .u64 1]) ∧ Below w.heap.size w w') := fun w => rof_one w
        have CA : Hid (∀ w, Calls Try.prog 31 #[.agg #[.int .u64 qx, .int .u64 qy], .agg #[.int .u64 0, .int .u64 1]] w fun e w' => e = .returned (.tuple #[.agg #[.int .u64 x, .int .u64 y], .bool false]) ∧ Below w.heap.size w w') := by
          have h := fun w => radd_one Q0 (Q0 + 1) w hQ1 rfl
          rw [decide_eq_false (Nat.not_le.2 hB1), ← hx, ← hy] at h
          rw [hqx, hqy]
          exact h
        have HQ : Hid (qx = whi Q0 ∧ qy = wlo Q0) := ⟨hqx, hqy⟩
        have HXY : Hid (y = wlo (Q0 + 1)) := hy
        clear hQ0 hR0 hqx hqy hQ1 hR htt tt hB1 hx hy hab
        go_upto_region 15 with (first | (go_at_call 30; refine (CD.out _).mono ?_; rintro e wd ⟨rfl, bd⟩) | fail)
        have KD := Lib.hid ((HK.out.below bd).new 42 [.int .u64 qx, .int .u64 qy])
        simp only [List.cons_append, List.nil_append] at KD
        clear bd z0 z1
        generalize wd.heap.size = gq at *
        generalize wd.alloc (.cells #[.int .u64 (qx : Int), .int .u64 (qy : Int)] 42) = WD at *
        go_upto_region 16 with fail
        refine wp_region_put (C0 := KV w [(26, w.heap.size, [.int .i64 0, .int .i64 0]), (42, g7, [.int .u64 a, .int .u64 b]), (42, gq, [.int .u64 qx, .int .u64 qy])]) (C1 := KV w [(26, w.heap.size, [.int .i64 0, .int .i64 0]), (42, g7, [.int .u64 a, .int .u64 b]), (42, gq, [.int .u64 x, .int .u64 y])]) [some (.agg #[.int .u64 qx, .int .u64 qy]), some (.agg #[.int .u64 0, .int .u64 1]), some (.tuple #[.agg #[.int .u64 x, .int .u64 y], .bool false]), some (.tuple #[.agg #[.int .u64 x, .int .u64 y], .bool false]), some (.agg #[.int .u64 x, .int .u64 y]), some (.bool false), none] 6 [0, 1, 2, 3, 4] (by kernel_rfl) (by kernel_rfl) KD.out.drew ?_ (fun WA hWA => ?_)
        · clear KD
          refine putWalk_quiet rfl (fun W hw' => quietAt_part (off := 0) (n := 2) (vs := [.int .u64 qx, .int .u64 qy]) rfl rfl tywide2 (hw'.at 2 rfl) rfl rfl) (fun hna => absurd hna (by decide)) ?_
          simp only [Act.put, List.setIfInBounds_toArray, List.set_cons_zero, List.set_cons_succ]
          refine putWalk_quiet rfl (fun W hw' => quietAt_call (f := 32) (args := #[.int .u64 1]) (by simp [go_sem]) ((CO.out W).mono fun e w'' h => ⟨h.1, hw'.below h.2⟩)) (fun hna => absurd hna (by decide)) ?_
          simp only [Act.put, List.setIfInBounds_toArray, List.set_cons_zero, List.set_cons_succ]
          refine putWalk_quiet rfl (fun W hw' => quietAt_call (f := 31) (args := #[.agg #[.int .u64 qx, .int .u64 qy], .agg #[.int .u64 0, .int .u64 1]]) (by simp [go_sem]) ((CA.out W).mono fun e w'' h => ⟨h.1, hw'.below h.2⟩)) (fun hna => absurd hna (by decide)) ?_
          simp only [Act.put, List.setIfInBounds_toArray, List.set_cons_zero, List.set_cons_succ]
          refine putWalk_quiet rfl (fun W hw' => quietAt_run (by simp [go_sem])) (fun hna => absurd hna (by decide)) ?_
          simp only [Act.put, List.setIfInBounds_toArray, List.set_cons_zero, List.set_cons_succ]
          refine putWalk_quiet rfl (fun W hw' => quietAt_run (by simp [go_sem])) (fun hna => absurd hna (by decide)) ?_
          simp only [Act.put, List.setIfInBounds_toArray, List.set_cons_zero, List.set_cons_succ]
          refine putWalk_quiet rfl (fun W hw' => quietAt_run (by simp [go_sem])) (fun hna => fun W hw' => quietAt_run (by simp [go_sem])) ?_
          simp only [Act.put, List.setIfInBounds_toArray, List.set_cons_zero, List.set_cons_succ]
          refine putWalk_put rfl (put_store 2 rfl rfl rfl rfl tywide2 rfl rfl (by simp [Value.oneCell'])) ?_
          trivial
        have KA := Lib.hid hWA
        clear hWA KD
        simp only [List.length_cons, List.length_nil, lexAct, pval, toK, List.map_cons, List.map_nil, List.getElem?_cons_zero, List.getElem?_cons_succ, Option.bind_some, Act.put, List.setIfInBounds_toArray, List.set_cons_zero, List.set_cons_succ]
        have v1 := (KA.out.at 2 rfl).get 1
        have f0 := (KA.out.at 0 rfl).frozen 0
        have f1 := (KA.out.at 0 rfl).frozen 1
        have r0 := (KA.out.at 0 rfl).get 0
        have r1 := (KA.out.at 0 rfl).get 1
        simp at v1 r0 r1
        have KE := Lib.hid (KA.out.store 0 rfl [.int .i64 0, .int .i64 0] rfl)
        have y0 := (KE.out.at 0 rfl).get 0
        have y1 := (KE.out.at 0 rfl).get 1
        simp [World.setCells] at y0 y1
        go_wp2_with fail
        rw [HMM.out, HB.out, ← HXY.out]
        exact bodyPost_ret (v := .tuple #[.int .u64 y, .agg #[.int .i64 0, .int .i64 0]]) (by simp [results, Try.results12, go_sem, y0, y1]) rfl ⟨rfl, KE.out.bel⟩
      · have hri : ¬ (0 : Int) < (R0 : Int) := by omega
        have HB : Hid (cuBurst M = Q0) := by show cuBurst M = Q0; unfold cuBurst; rw [← hR0, if_neg hR, hQ0, Nat.add_zero]
        have HQ : Hid (qx = whi Q0 ∧ qy = wlo Q0) := ⟨hqx, hqy⟩
        clear hQ0 hR0 hqx hqy hQ1 hR htt tt hab
        go_upto_region 15 with (first | (go_at_call 30; refine (CD.out _).mono ?_; rintro e wd ⟨rfl, bd⟩) | fail)
        have KD := Lib.hid ((HK.out.below bd).new 42 [.int .u64 qx, .int .u64 qy])
        simp only [List.cons_append, List.nil_append] at KD
        clear bd z0 z1
        generalize wd.heap.size = gq at *
        generalize wd.alloc (.cells #[.int .u64 (qx : Int), .int .u64 (qy : Int)] 42) = WD at *
        have KA := KD
        clear KD
        have v1 := (KA.out.at 2 rfl).get 1
        have f0 := (KA.out.at 0 rfl).frozen 0
        have f1 := (KA.out.at 0 rfl).frozen 1
        have r0 := (KA.out.at 0 rfl).get 0
        have r1 := (KA.out.at 0 rfl).get 1
        simp at v1 r0 r1
        have KE := Lib.hid (KA.out.store 0 rfl [.int .i64 0, .int .i64 0] rfl)
        have y0 := (KE.out.at 0 rfl).get 0
        have y1 := (KE.out.at 0 rfl).get 1
        simp [World.setCells] at y0 y1
        go_wp2_with fail
        rw [HMM.out, HB.out, ← HQ.out.2]
        exact bodyPost_ret (v := .tuple #[.int .u64 qy, .agg #[.int .i64 0, .int .i64 0]]) (by simp [results, Try.results12, go_sem, y0, y1]) rfl ⟨rfl, KE.out.bel⟩
theorem rleast_any (A : Option Addr) (n cap : Nat) (L : List Sm) (r : Nat) (w : World) (hn : n ≤ 1000) (hr : r ≤ 18446744073709551615) (hcap : n ≤ cap) (hA : SmRow w A n L) :
    Calls Try.prog 12 #[.slice A n cap, .int .u64 r] w fun e w' => e = .returned (.tuple #[.int .u64 (cuLeast L r : Nat), .agg (fvC (cuBad L)).toArray]) ∧ Below w.heap.size w w' := by
  have CC := Lib.hid (fun w' (h : Below w.heap.size w w') => rcheck_any A n cap L w' (by omega) (hA.below h))
  unfold cuLeast
  cases hB : cuBad L with
  | some q =>
    rw [hB] at CC
    rw [if_neg (by simp)]
    exact rleast_bad A n cap q r w CC
  | none =>
    rw [hB] at CC
    rw [if_pos rfl, hA.1]
    exact rleast_ok A n cap L r w hn (by have := cuGood_of hB; rw [hA.1] at this; exact this) hr hcap hA CC
end Go.Proofs.Ytemgnaalmgkfiaa
