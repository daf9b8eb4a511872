/-
  The document's Breaks and Least.
-/
import Derived.Test.YtemgnaalmgkfiaaRCu1
import Derived.Test.YtemgnaalmgkfiaaRef2i
namespace Go.Proofs.Ytemgnaalmgkfiaa
open Go.RowKit
set_option linter.unusedVariables false
attribute [local go_sem ↓] Go.wp_at_zero Go.wp_at_succ

theorem upto_next {P : Nat → Prop} {i : Nat} (h : ∀ k, k < i → P k) (hp : P i) : ∀ k, k < i + 1 → P k := fun k hk => by
  rcases Nat.lt_or_ge k i with e | e
  · exact h k e
  · obtain rfl : k = i := by omega
    exact hp
theorem exc_not {L : List Sm} {r m j : Nat} (h : ∀ k, k < j + 1 → ¬ m < cuOver L r k j) : ¬ m < cuExc L r j := by
  obtain ⟨i, hi, he⟩ := cuExc_has L r j
  rw [← he]
  exact h i (by omega)

set_option maxRecDepth 10000 in
set_option maxHeartbeats 1600000 in
theorem rbreaks_bad (A : Option Addr) (n cap q : Nat) (r bu : Nat) (w : World) (CC : Hid (∀ w', Below w.heap.size w w' → Calls Try.prog 24 #[.slice A n cap] w' fun e w'' => e = .returned (.agg #[.int .i64 1, .int .i64 (q : Nat)]) ∧ Below w'.heap.size w' w'')) :
    Calls Try.prog 7 #[.slice A n cap, .int .u64 r, .int .u64 bu] w fun e w' => e = .returned (.tuple #[.int .i64 0, .int .i64 0, .agg #[.int .i64 1, .int .i64 (q : Nat)]]) ∧ Below w.heap.size w w' := by
  go_enter Try.func7, Try.ntmps7
  have K0 := Lib.hid (KV.one w 26 [.int .i64 0, .int .i64 0])
  go_wp2_with fail
  refine (CC.out _ K0.out.bel).mono ?_
  rintro e w1 ⟨rfl, b1⟩
  have K1 := Lib.hid ((K0.out.below b1).new 26 [.int .i64 1, .int .i64 (q : Nat)])
  clear b1 K0 CC
  have m0 := (K1.out.at 1 rfl).get 0
  simp at m0
  go_upto_region 3 with fail
  generalize w1.heap.size = g1 at *
  generalize w1.alloc (.cells #[.int .i64 1, .int .i64 (q : Int)] 26) = W at *
  have d0 := (K1.out.at 1 rfl).get 0
  have d1 := (K1.out.at 1 rfl).get 1
  have f0 := (K1.out.at 0 rfl).frozen 0
  have f1 := (K1.out.at 0 rfl).frozen 1
  have r0 := (K1.out.at 0 rfl).get 0
  have r1 := (K1.out.at 0 rfl).get 1
  simp at d0 d1 r0 r1
  have K2 := Lib.hid (K1.out.drew.store 0 rfl [.int .i64 1, .int .i64 (q : Int)] rfl)
  have s0 : ((W.setCell ⟨w.heap.size, 0, none⟩ (.int .i64 1)).setCell ⟨w.heap.size, 1, none⟩ (.int .i64 (q : Int))).drew.cell? ⟨w.heap.size, 0, none⟩ = some (.int .i64 1) := (K2.out.at 0 rfl).get 0
  have s1 : ((W.setCell ⟨w.heap.size, 0, none⟩ (.int .i64 1)).setCell ⟨w.heap.size, 1, none⟩ (.int .i64 (q : Int))).drew.cell? ⟨w.heap.size, 1, none⟩ = some (.int .i64 (q : Int)) := (K2.out.at 0 rfl).get 1
  have e0 : ((W.setCell ⟨w.heap.size, 0, none⟩ (.int .i64 1)).setCell ⟨w.heap.size, 1, none⟩ (.int .i64 (q : Int))).drew.cell? ⟨g1, 0, none⟩ = some (.int .i64 1) := (K2.out.at 1 rfl).get 0
  have e1 : ((W.setCell ⟨w.heap.size, 0, none⟩ (.int .i64 1)).setCell ⟨w.heap.size, 1, none⟩ (.int .i64 (q : Int))).drew.cell? ⟨g1, 1, none⟩ = some (.int .i64 (q : Int)) := (K2.out.at 1 rfl).get 1
  go_region_held3 (fun W => (W.cell? ⟨g1, 0, none⟩ = some (.int .i64 1) ∧ W.cell? ⟨g1, 1, none⟩ = some (.int .i64 (q : Int)))) (first | exact ⟨d0, d1⟩ | exact ⟨e0, e1⟩ | go_keep) (fail)
  go_wp2_with fail
  exact bodyPost_ret (v := .tuple #[.int .i64 0, .int .i64 0, .agg #[.int .i64 1, .int .i64 (q : Int)]]) (by simp [results, Try.results7, go_sem, s0, s1]) rfl ⟨rfl, K2.out.bel⟩

set_option maxRecDepth 10000 in
set_option maxHeartbeats 4000000 in
theorem rbreaks_ok (A : Option Addr) (n cap : Nat) (L : List Sm) (r bu : Nat) (w : World) (hn : n ≤ 1000) (hg : cuGood L n) (hr : r ≤ 18446744073709551615) (hbu : bu ≤ 18446744073709551615) (hcap : n ≤ cap) (hA : SmRow w A n L)
    (CC : Hid (∀ w', Below w.heap.size w w' → Calls Try.prog 24 #[.slice A n cap] w' fun e w'' => e = .returned (.agg #[.int .i64 0, .int .i64 0]) ∧ Below w'.heap.size w' w'')) :
    Calls Try.prog 7 #[.slice A n cap, .int .u64 r, .int .u64 bu] w fun e w' => ∃ (i j : Nat) (ec ea : Int), e = .returned (.tuple #[.int .i64 (i : Int), .int .i64 (j : Int), .agg #[.int .i64 ec, .int .i64 ea]]) ∧ BRes L r (1000000000 * bu) n i j ec ea ∧ Below w.heap.size w w' := by
  obtain ⟨m, hm⟩ : ∃ m, m = 1000000000 * bu := ⟨_, rfl⟩
  rw [← hm]
  have hm1 : m < w128 := by rw [hm]; exact prod_lt (by decide) hbu
  obtain ⟨mx, hmx⟩ : ∃ x, x = whi m := ⟨_, rfl⟩
  obtain ⟨my, hmy⟩ : ∃ x, x = wlo m := ⟨_, rfl⟩
  have CM : Hid (∀ w, Calls Try.prog 26 #[.int .u64 bu, .int .u64 1000000000] w fun e w' => e = .returned (.agg #[.int .u64 mx, .int .u64 my]) ∧ Below w.heap.size w w') := by rw [hmx, hmy, hm, Nat.mul_comm]; exact fun w => rmul_any bu 1000000000 w hbu (by decide)
  have CO := Lib.hid (fun (i j : Nat) (hij : i ≤ j) (hj : j < n) w' (h : SmRow w' A n L) => rover_any A n cap L r i j w' hn hij hj hr hg hcap h)
  have HMX : Hid (mx = whi m ∧ my = wlo m) := ⟨hmx, hmy⟩
  have HM1 := Lib.hid hm1
  have HSM := Lib.hid (fun j (hj : j < n) => exc_small r hg (by omega) hj)
  have HA := Lib.hid hA
  have HN : Hid ((n : Int) ≤ 17592186043904) := (by omega : (n : Int) ≤ 17592186043904)
  clear hm hm1 hmx hmy hn hg hr hbu hA hcap
  go_enter Try.func7, Try.ntmps7
  have K0 := Lib.hid (KV.one w 26 [.int .i64 0, .int .i64 0])
  go_wp2_with fail
  refine (CC.out _ K0.out.bel).mono ?_
  rintro e w1 ⟨rfl, b1⟩
  have K1 := Lib.hid ((K0.out.below b1).new 26 [.int .i64 0, .int .i64 0])
  clear b1 K0 CC
  have m0 := (K1.out.at 1 rfl).get 0
  simp at m0
  have HK1 := Lib.hid (K1.out.pick [0] (by simp) rfl (fun q hq => by simp at hq; subst hq; rfl) : KV w [(26, w.heap.size, [.int .i64 0, .int .i64 0])] _)
  go_wp2_with fail
  go_loopw [10] (fun vj wr => ∃ j : Nat, j ≤ n ∧ vj = .int .i64 (j : Int) ∧ Hid (∀ k, k < j → ¬ m < cuExc L r k) ∧ KV w [(26, w.heap.size, [.int .i64 0, .int .i64 0])] wr) (fun vj _ => n - (intOf vj).toNat)
  case atStart => exact ⟨0, Nat.zero_le _, rfl, (fun k hk => absurd hk (by omega)), HK1.out⟩
  case round =>
    clear K1 HK1 m0
    obtain ⟨j, hj, rfl, hno, hK⟩ := hrel
    have HK := Lib.hid hK
    clear hK
    by_cases hlt : j < n
    · obtain ⟨W0, hW0⟩ : ∃ W, W = wr := ⟨_, rfl⟩
      rw [← hW0] at HK ⊢
      have HLT := Lib.hid hlt
      have uj := cu_next hlt HN.out
      have hjn : (j : Int) < (n : Int) := by omega
      clear hW0 hlt hj
      go_wp2_with fail
      go_loopw [11] (fun vi wr => ∃ i : Nat, i ≤ j + 1 ∧ vi = .int .i64 (i : Int) ∧ Hid (∀ k, k < i → ¬ m < cuOver L r k j) ∧ KV w [(26, w.heap.size, [.int .i64 0, .int .i64 0])] wr) (fun vi _ => j + 1 - (intOf vi).toNat)
      case atStart => exact ⟨0, Nat.zero_le _, rfl, (fun k hk => absurd hk (by omega)), HK.out⟩
      case round =>
        clear HK
        obtain ⟨i, hi, rfl, hni, hK⟩ := hrel
        have HK := Lib.hid hK
        clear hK
        by_cases hlt2 : i ≤ j
        · have hij : (i : Int) ≤ (j : Int) := by omega
          obtain ⟨O, hO⟩ : ∃ O, O = cuOver L r i j := ⟨_, rfl⟩
          obtain ⟨ox, hox⟩ : ∃ x, x = whi O := ⟨_, rfl⟩
          obtain ⟨oy, hoy⟩ : ∃ x, x = wlo O := ⟨_, rfl⟩
          have CO2 : Hid (∀ w', SmRow w' A n L → Calls Try.prog 27 #[.slice A n cap, .int .u64 r, .int .i64 (i : Int), .int .i64 (j : Int)] w' fun e w'' => e = .returned (.agg #[.int .u64 ox, .int .u64 oy]) ∧ Below w'.heap.size w' w'') := by rw [hox, hoy, hO]; exact fun w' h => CO.out i j hlt2 HLT.out w' h
          have hO1 : O < w128 := by rw [hO]; exact Nat.lt_of_le_of_lt (cuExc_ge L r j hlt2) (HSM.out j HLT.out)
          have CL : Hid (∀ w, Calls Try.prog 25 #[.agg #[.int .u64 mx, .int .u64 my], .agg #[.int .u64 ox, .int .u64 oy]] w fun e w' => e = .returned (.bool (decide (m < O))) ∧ Below w.heap.size w w') := by rw [HMX.out.1, HMX.out.2, hox, hoy]; exact fun w => rless_nums m O w HM1.out hO1
          have ui := cu_next (k := i) (n := j + 1) (by omega) (by have := HLT.out; have := HN.out; omega)
          have HI2 := Lib.hid hlt2
          have HO := Lib.hid hO
          by_cases hmo : m < O
          · rw [decide_eq_true hmo] at CL
            have HMO := Lib.hid hmo
            clear hO hox hoy hO1 hi hlt2 hmo
            go_upto_region 11 with (first | (go_at_call 26; refine (CM.out _).mono ?_; rintro e w2 ⟨rfl, b2⟩; have ra := Lib.hid (HA.out.below (below_both HK.out.bel b2))) | (go_at_call 27; refine (CO2.out _ ra.out).mono ?_; rintro e w3 ⟨rfl, b3⟩) | (go_at_call 25; refine (CL.out _).mono ?_; rintro e w4 ⟨rfl, b4⟩) | fail)
            have K4 := Lib.hid (((HK.out.below b2).below b3).below b4)
            have f0 := (K4.out.at 0 rfl).frozen 0
            have f1 := (K4.out.at 0 rfl).frozen 1
            have r0 := (K4.out.at 0 rfl).get 0
            have r1 := (K4.out.at 0 rfl).get 1
            simp at r0 r1
            have KE := Lib.hid (K4.out.store 0 rfl [.int .i64 17, .int .i64 (j : Int)] rfl)
            have y0 := (KE.out.at 0 rfl).get 0
            have y1 := (KE.out.at 0 rfl).get 1
            simp [World.setCells] at y0 y1
            clear b2 b3 b4 ra
            go_wp2_with fail
            refine bodyPost_ret (v := .tuple #[.int .i64 (i : Int), .int .i64 (j : Int), .agg #[.int .i64 17, .int .i64 (j : Int)]]) (by simp [results, Try.results7, go_sem, y0, y1]) rfl ⟨i, j, 17, j, rfl, .inl ⟨⟨HI2.out, by rw [← HO.out]; exact HMO.out, hni.out, hno.out⟩, HLT.out, rfl, rfl⟩, KE.out.bel⟩
          · rw [decide_eq_false hmo] at CL
            have HMO : Hid (∀ k, k < i + 1 → ¬ m < cuOver L r k j) := upto_next hni.out (by rw [← hO]; exact hmo)
            clear hO hox hoy hO1 hi hlt2 hmo
            go_wp2_with (first | (go_at_call 26; refine (CM.out _).mono ?_; rintro e w2 ⟨rfl, b2⟩; have ra := Lib.hid (HA.out.below (below_both HK.out.bel b2))) | (go_at_call 27; refine (CO2.out _ ra.out).mono ?_; rintro e w3 ⟨rfl, b3⟩) | (go_at_call 25; refine (CL.out _).mono ?_; rintro e w4 ⟨rfl, b4⟩) | fail)
            go_roundw
            case rel => exact ⟨i + 1, by have := HI2.out; omega, by rw [ui], HMO.out, ((HK.out.below b2).below b3).below b4⟩
            case measure => rw [ui]; have hms := HI2.out; simp [intOf]; omega
        · obtain rfl : i = j + 1 := by omega
          have hij : ¬ ((j + 1 : Nat) : Int) ≤ (j : Int) := by omega
          have HNO : Hid (∀ k, k < j + 1 → ¬ m < cuExc L r k) := upto_next hno.out (exc_not hni.out)
          clear hi hlt2 hni
          go_wp2_with fail
          go_roundw
          case rel => exact ⟨j + 1, HLT.out, by rw [uj], HNO.out, HK.out⟩
          case measure => rw [uj]; have hms := HLT.out; simp [intOf]; omega
    · obtain rfl : j = n := by omega
      have r0 := (HK.out.at 0 rfl).get 0
      have r1 := (HK.out.at 0 rfl).get 1
      have f0 := (HK.out.at 0 rfl).frozen 0
      have f1 := (HK.out.at 0 rfl).frozen 1
      simp at r0 r1
      have KE := Lib.hid (HK.out.store 0 rfl [.int .i64 0, .int .i64 0] rfl)
      have y0 := (KE.out.at 0 rfl).get 0
      have y1 := (KE.out.at 0 rfl).get 1
      simp [World.setCells] at y0 y1
      clear hj hlt
      go_wp2_with fail
      exact bodyPost_ret (v := .tuple #[.int .i64 0, .int .i64 0, .agg #[.int .i64 0, .int .i64 0]]) (by simp [results, Try.results7, go_sem, y0, y1]) rfl ⟨0, 0, 0, 0, rfl, .inr ⟨hno.out, rfl, rfl, rfl, rfl⟩, KE.out.bel⟩
theorem rbreaks_any (A : Option Addr) (n cap : Nat) (L : List Sm) (r bu : Nat) (w : World) (hn : n ≤ 1000) (hr : r ≤ 18446744073709551615) (hbu : bu ≤ 18446744073709551615) (hcap : n ≤ cap) (hA : SmRow w A n L) :
    Calls Try.prog 7 #[.slice A n cap, .int .u64 r, .int .u64 bu] w fun e w' => ∃ (i j : Nat) (ec ea : Int), e = .returned (.tuple #[.int .i64 (i : Int), .int .i64 (j : Int), .agg #[.int .i64 ec, .int .i64 ea]]) ∧
      (match cuBad L with | some q => i = 0 ∧ j = 0 ∧ ec = 1 ∧ ea = (q : Int) | none => BRes L r (1000000000 * bu) n i j ec ea) ∧ Below w.heap.size w w' := by
  have CC := Lib.hid (fun w' (h : Below w.heap.size w w') => rcheck_any A n cap L w' (by omega) (hA.below h))
  cases hB : cuBad L with
  | some q =>
    rw [hB] at CC
    refine (rbreaks_bad A n cap q r bu w CC).mono ?_
    rintro e w' ⟨rfl, hb⟩
    exact ⟨0, 0, 1, q, rfl, ⟨rfl, rfl, rfl, rfl⟩, hb⟩
  | none =>
    rw [hB] at CC
    exact rbreaks_ok A n cap L r bu w hn (by have := cuGood_of hB; rw [hA.1] at this; exact this) hr hbu hcap hA CC
end Go.Proofs.Ytemgnaalmgkfiaa
