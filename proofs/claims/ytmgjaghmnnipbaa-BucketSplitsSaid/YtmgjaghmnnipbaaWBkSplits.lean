/-
  The walk of the statement BucketSplits.
-/
import Derived.Test.YtmgjaghmnnipbaaLive24
import Derived.Test.YtmgjaghmnnipbaaBk2
import Derived.Test.YtmgjaghmnnipbaaBkLift
namespace Go.Proofs.Ytmgjaghmnnipbaa
open Go.RowKit
set_option linter.unusedVariables false

theorem bk_split (l r G1 G2 : Nat) : bkPut l r G1 + bkPut (l + bkPut l r G1) r G2 = bkPut l r (G1 + G2) := by
  unfold bkPut
  split <;> split <;> split <;> omega
theorem bk_low {l r : Nat} (G : Nat) (h : l ≤ r) : l + bkPut l r G ≤ r := by
  have := (bkPut_le l r G).2
  omega
theorem sub_of_add {a b c : Nat} (h : a = b + c) : a - b = c := by omega

set_option maxRecDepth 10000 in
set_option maxHeartbeats 3200000 in
theorem splits_main (l r a b c t : Nat) (w : World) (hl : l ≤ 18446744073709551615) (hr : r ≤ 18446744073709551615) (ha : a ≤ 18446744073709551615) (hb : b ≤ 18446744073709551615) (hc : c ≤ 18446744073709551615) (ht : t = b + c) (ht64 : t ≤ 18446744073709551615) :
    Calls Try.prog 5 #[.int .u64 l, .int .u64 r, .agg #[.int .u64 a, .int .u64 b, .int .u64 c]] w fun e w' => e = .returned (.bool true) ∧ Below w.heap.size w w' := by
  have wt : IntKind.u64.wrap ((b : Int) + (c : Int)) = (t : Int) := by rw [ht, IntKind.wrap_u64]; omega
  have htb : ¬ (t : Int) < (b : Int) := by omega
  have hGlt := mul_words ha ht64
  have e1 := bk_split l r (a * b) (a * c)
  rw [← Nat.mul_add, ← ht] at e1
  have p0 := bkPut_le l r (a * t)
  have p1 := bkPut_le l r (a * b)
  have p2 := bkPut_le (l + bkPut l r (a * b)) r (a * c)
  have e2 : a * b + a * c = a * t := by rw [ht, Nat.mul_add]
  have b64 := bk_level (G := a * b) hl hr
  have hlo := fun h => bk_low (l := l) (r := r) (a * t) h
  obtain ⟨p, hp⟩ : ∃ p, p = bkPut l r (a * t) := ⟨_, rfl⟩
  obtain ⟨P1, hP1⟩ : ∃ p, p = bkPut l r (a * b) := ⟨_, rfl⟩
  obtain ⟨m, hm⟩ : ∃ m, m = l + P1 := ⟨_, rfl⟩
  obtain ⟨q, hq⟩ : ∃ q, q = l + p := ⟨_, rfl⟩
  obtain ⟨sx, hsx⟩ : ∃ x, x = whi (a * t - p) := ⟨_, rfl⟩
  obtain ⟨sy, hsy⟩ : ∃ x, x = wlo (a * t - p) := ⟨_, rfl⟩
  obtain ⟨ux, hux⟩ : ∃ x, x = whi (a * b - P1) := ⟨_, rfl⟩
  obtain ⟨uy, huy⟩ : ∃ x, x = wlo (a * b - P1) := ⟨_, rfl⟩
  rw [← hP1] at e1 p1 p2 b64
  rw [← hm] at e1 p2 b64
  rw [← hp] at e1 p0 hlo
  obtain ⟨P2, hP2⟩ : ∃ p, p = bkPut m r (a * c) := ⟨_, rfl⟩
  rw [← hP2] at e1 p2
  obtain ⟨vx, hvx⟩ : ∃ x, x = whi (a * c - P2) := ⟨_, rfl⟩
  obtain ⟨vy, hvy⟩ : ∃ x, x = wlo (a * c - P2) := ⟨_, rfl⟩
  obtain ⟨gx, hgx⟩ : ∃ x, x = whi (a * t) := ⟨_, rfl⟩
  obtain ⟨gy, hgy⟩ : ∃ x, x = wlo (a * t) := ⟨_, rfl⟩
  have q64 := bk_level (G := a * t) hl hr
  rw [← hp, ← hq] at q64
  have hq2 : q = m + bkPut m r (a * c) := by rw [← hP2]; omega
  have hwu : wnum ux uy = a * b - P1 := by rw [hux, huy]; exact (words_back (by omega)).symm
  have hwv : wnum vx vy = a * c - P2 := by rw [hvx, hvy]; exact (words_back (by omega)).symm
  have hws : wnum sx sy = a * t - p := by rw [hsx, hsy]; exact (words_back (by omega)).symm
  have bu : ux ≤ 18446744073709551615 ∧ uy ≤ 18446744073709551615 := by rw [hux, huy]; exact ⟨whi_le _, wlo_le _⟩
  have bv : vx ≤ 18446744073709551615 ∧ vy ≤ 18446744073709551615 := by rw [hvx, hvy]; exact ⟨whi_le _, wlo_le _⟩
  have bs : sx ≤ 18446744073709551615 ∧ sy ≤ 18446744073709551615 := by rw [hsx, hsy]; exact ⟨whi_le _, wlo_le _⟩
  have p64 : p ≤ 18446744073709551615 := by omega
  have C1 : Hid (∀ w, Calls Try.prog 8 #[.int .u64 l, .int .u64 r, .int .u64 a, .int .u64 t] w fun e w' => e = .returned (.tuple #[.int .u64 q, .agg #[.int .u64 sx, .int .u64 sy]]) ∧ Below w.heap.size w w') := fun w => bkgrow_any l r a t sx sy q w hl hr ha ht64 (by rw [← hp]; exact hq) (by rw [← hp]; exact hsx) (by rw [← hp]; exact hsy)
  have C2 : Hid (∀ w, Calls Try.prog 8 #[.int .u64 l, .int .u64 r, .int .u64 a, .int .u64 b] w fun e w' => e = .returned (.tuple #[.int .u64 m, .agg #[.int .u64 ux, .int .u64 uy]]) ∧ Below w.heap.size w w') := fun w => bkgrow_any l r a b ux uy m w hl hr ha hb (by rw [← hP1]; exact hm) (by rw [← hP1]; exact hux) (by rw [← hP1]; exact huy)
  have C3 : Hid (∀ w, Calls Try.prog 8 #[.int .u64 m, .int .u64 r, .int .u64 a, .int .u64 c] w fun e w' => e = .returned (.tuple #[.int .u64 q, .agg #[.int .u64 vx, .int .u64 vy]]) ∧ Below w.heap.size w w') := fun w => bkgrow_any m r a c vx vy q w b64 hr ha hc hq2 (by rw [← hP2]; exact hvx) (by rw [← hP2]; exact hvy)
  have C4 : Hid (∀ w, Calls Try.prog 19 #[.agg #[.int .u64 ux, .int .u64 uy], .agg #[.int .u64 vx, .int .u64 vy]] w fun e w' => e = .returned (.tuple #[.agg #[.int .u64 sx, .int .u64 sy], .bool false]) ∧ Below w.heap.size w w') := fun w => by
    rw [hsx, hsy]
    exact add_raw ux uy vx vy (a * t - p) false w bu.1 bu.2 bv.1 bv.2 (by rw [hwu, hwv]; show _ = _; omega) (decide_eq_false (by omega)).symm
  have C5 : Hid (∀ w, Calls Try.prog 21 #[.int .u64 q] w fun e w' => e = .returned (.agg #[.int .u64 0, .int .u64 q]) ∧ Below w.heap.size w w') := fun w => of_any q w
  have C6 : Hid (∀ w, Calls Try.prog 21 #[.int .u64 l] w fun e w' => e = .returned (.agg #[.int .u64 0, .int .u64 l]) ∧ Below w.heap.size w w') := fun w => of_any l w
  have C7 : Hid (∀ w, Calls Try.prog 20 #[.agg #[.int .u64 0, .int .u64 q], .agg #[.int .u64 0, .int .u64 l]] w fun e w' => e = .returned (.tuple #[.agg #[.int .u64 0, .int .u64 p], .bool false]) ∧ Below w.heap.size w w') := fun w => by
    have h := sub_raw 0 q 0 l (p + w128) false w (by decide) q64 (by decide) hl (by rw [wnum_zero, wnum_zero]; show _ = _; omega) (by rw [wnum_zero, wnum_zero]; exact (decide_eq_false (by omega)).symm)
    have h1 : whi (p + w128) = 0 := by rw [← (words_mod (p + w128)).1, Nat.add_mod_right, (words_mod p).1]; exact whi_small (by omega)
    have h2 : wlo (p + w128) = p := by rw [← (words_mod (p + w128)).2, Nat.add_mod_right, (words_mod p).2]; exact Nat.mod_eq_of_lt (by omega)
    rw [h1, h2] at h
    exact h
  have C8 : Hid (∀ w, Calls Try.prog 19 #[.agg #[.int .u64 0, .int .u64 p], .agg #[.int .u64 sx, .int .u64 sy]] w fun e w' => e = .returned (.tuple #[.agg #[.int .u64 gx, .int .u64 gy], .bool false]) ∧ Below w.heap.size w w') := fun w => by
    rw [hgx, hgy]
    exact add_raw 0 p sx sy (a * t) false w (by decide) p64 bs.1 bs.2 (by rw [wnum_zero, hws]; show _ = _; omega) (decide_eq_false (by omega)).symm
  have C9 : Hid (∀ w, Calls Try.prog 22 #[.int .u64 a, .int .u64 t] w fun e w' => e = .returned (.agg #[.int .u64 gx, .int .u64 gy]) ∧ Below w.heap.size w w') := fun w => by rw [hgx, hgy]; exact mul_any a t w ha ht64
  have hql : ¬ (q : Int) < (l : Int) := by omega
  by_cases hlr : l ≤ r
  · have hlri : (l : Int) ≤ (r : Int) := by omega
    have hqr : ¬ (r : Int) < (q : Int) := by have := hlo hlr; omega
    clear hl hr ha hb hc ht ht64 hGlt e1 p0 p1 p2 e2 b64 hlo hp hP1 hm hq hsx hsy hux huy hP2 hvx hvy hgx hgy q64 hq2 hwu hwv hws bu bv bs p64 hlr
    go_enter Try.func5, Try.ntmps5
    have K0 := Lib.hid (KV.one w 38 [.int .u64 a, .int .u64 b, .int .u64 c])
    have c0_0 := (K0.out.at 0 rfl).get 0
    have c0_1 := (K0.out.at 0 rfl).get 1
    have c0_2 := (K0.out.at 0 rfl).get 2
    simp at c0_0 c0_1 c0_2
    go_wp2_with fail
    refine (C1.out _).mono ?_
    rintro e w1 ⟨rfl, b1⟩
    have K1 := Lib.hid ((K0.out.below b1).new 25 [.int .u64 sx, .int .u64 sy])
    clear b1 K0 c0_0 c0_1 c0_2
    have c0_0 := (K1.out.at 0 rfl).get 0
    have c0_1 := (K1.out.at 0 rfl).get 1
    have c0_2 := (K1.out.at 0 rfl).get 2
    simp at c0_0 c0_1 c0_2
    go_wp2_with fail
    refine (C2.out _).mono ?_
    rintro e w2 ⟨rfl, b2⟩
    have K2 := Lib.hid ((K1.out.below b2).new 25 [.int .u64 ux, .int .u64 uy])
    clear b2 K1 c0_0 c0_1 c0_2
    have c0_0 := (K2.out.at 0 rfl).get 0
    have c0_1 := (K2.out.at 0 rfl).get 1
    have c0_2 := (K2.out.at 0 rfl).get 2
    simp at c0_0 c0_1 c0_2
    go_wp2_with fail
    refine (C3.out _).mono ?_
    rintro e w3 ⟨rfl, b3⟩
    have K3 := Lib.hid ((K2.out.below b3).new 25 [.int .u64 vx, .int .u64 vy])
    clear b3 K2 c0_0 c0_1 c0_2
    have c2_0 := (K3.out.at 2 rfl).get 0
    have c2_1 := (K3.out.at 2 rfl).get 1
    have c3_0 := (K3.out.at 3 rfl).get 0
    have c3_1 := (K3.out.at 3 rfl).get 1
    simp at c2_0 c2_1 c3_0 c3_1
    go_wp2_with fail
    refine (C4.out _).mono ?_
    rintro e w4 ⟨rfl, b4⟩
    have K4 := Lib.hid ((K3.out.below b4).new 25 [.int .u64 sx, .int .u64 sy])
    clear b4 K3 c2_0 c2_1 c3_0 c3_1
    have c1_0 := (K4.out.at 1 rfl).get 0
    have c1_1 := (K4.out.at 1 rfl).get 1
    have c4_0 := (K4.out.at 4 rfl).get 0
    have c4_1 := (K4.out.at 4 rfl).get 1
    simp at c1_0 c1_1 c4_0 c4_1
    go_wp2_with fail
    refine (C5.out _).mono ?_
    rintro e w5 ⟨rfl, b5⟩
    have K5 := Lib.hid (K4.out.below b5)
    clear b5 K4 c1_0 c1_1 c4_0 c4_1
    go_wp2_with fail
    refine (C6.out _).mono ?_
    rintro e w6 ⟨rfl, b6⟩
    have K6 := Lib.hid (K5.out.below b6)
    clear b6 K5 
    go_wp2_with fail
    refine (C7.out _).mono ?_
    rintro e w7 ⟨rfl, b7⟩
    have K7 := Lib.hid ((K6.out.below b7).new 25 [.int .u64 0, .int .u64 p])
    clear b7 K6 
    have c1_0 := (K7.out.at 1 rfl).get 0
    have c1_1 := (K7.out.at 1 rfl).get 1
    have c5_0 := (K7.out.at 5 rfl).get 0
    have c5_1 := (K7.out.at 5 rfl).get 1
    simp at c1_0 c1_1 c5_0 c5_1
    go_wp2_with fail
    refine (C8.out _).mono ?_
    rintro e w8 ⟨rfl, b8⟩
    have K8 := Lib.hid ((K7.out.below b8).new 25 [.int .u64 gx, .int .u64 gy])
    clear b8 K7 c1_0 c1_1 c5_0 c5_1
    go_upto_region 12 with fail
    generalize w1.heap.size = g1 at *
    generalize w2.heap.size = g2 at *
    generalize w3.heap.size = g3 at *
    generalize w4.heap.size = g4 at *
    generalize w7.heap.size = g7 at *
    generalize w8.heap.size = g8 at *
    go_region_held3 (fun W => (W.cell? ⟨w.heap.size, 0, none⟩ = some (.int .u64 a) ∧ W.cell? ⟨g8, 0, none⟩ = some (.int .u64 gx) ∧ W.cell? ⟨g8, 1, none⟩ = some (.int .u64 gy))) (first | exact ⟨(K8.out.at 0 rfl).get 0, (K8.out.at 6 rfl).get 0, (K8.out.at 6 rfl).get 1⟩ | exact HT.out | exact hT | go_keep)
      (first
        | (go_at_call 12; (with_reducible refine (live24 _).mono ?_); rintro e w' ⟨rfl, hb'⟩; have K8 := Lib.hid (K8.out.drew.below hb'); have hT : (w'.cell? ⟨w.heap.size, 0, none⟩ = some (.int .u64 a) ∧ w'.cell? ⟨g8, 0, none⟩ = some (.int .u64 gx) ∧ w'.cell? ⟨g8, 1, none⟩ = some (.int .u64 gy)) := ⟨(K8.out.at 0 rfl).get 0, (K8.out.at 6 rfl).get 0, (K8.out.at 6 rfl).get 1⟩; have HT := Lib.hid hT)
        | (go_at_call 22; (with_reducible refine (C9.out _).mono ?_); rintro e w' ⟨rfl, hb'⟩; have K8 := Lib.hid (K8.out.below hb'); have hT : (w'.cell? ⟨w.heap.size, 0, none⟩ = some (.int .u64 a) ∧ w'.cell? ⟨g8, 0, none⟩ = some (.int .u64 gx) ∧ w'.cell? ⟨g8, 1, none⟩ = some (.int .u64 gy)) := ⟨(K8.out.at 0 rfl).get 0, (K8.out.at 6 rfl).get 0, (K8.out.at 6 rfl).get 1⟩; have HT := Lib.hid hT)
        | fail)
    go_wp2_with fail
    go_ret
    exact ⟨by simp, K8.out.bel⟩
  · have hlri : ¬ (l : Int) ≤ (r : Int) := by omega
    clear hl hr ha hb hc ht ht64 hGlt e1 p0 p1 p2 e2 b64 hlo hp hP1 hm hq hsx hsy hux huy hP2 hvx hvy hgx hgy q64 hq2 hwu hwv hws bu bv bs p64 hlr
    go_enter Try.func5, Try.ntmps5
    have K0 := Lib.hid (KV.one w 38 [.int .u64 a, .int .u64 b, .int .u64 c])
    have c0_0 := (K0.out.at 0 rfl).get 0
    have c0_1 := (K0.out.at 0 rfl).get 1
    have c0_2 := (K0.out.at 0 rfl).get 2
    simp at c0_0 c0_1 c0_2
    go_wp2_with fail
    refine (C1.out _).mono ?_
    rintro e w1 ⟨rfl, b1⟩
    have K1 := Lib.hid ((K0.out.below b1).new 25 [.int .u64 sx, .int .u64 sy])
    clear b1 K0 c0_0 c0_1 c0_2
    have c0_0 := (K1.out.at 0 rfl).get 0
    have c0_1 := (K1.out.at 0 rfl).get 1
    have c0_2 := (K1.out.at 0 rfl).get 2
    simp at c0_0 c0_1 c0_2
    go_wp2_with fail
    refine (C2.out _).mono ?_
    rintro e w2 ⟨rfl, b2⟩
    have K2 := Lib.hid ((K1.out.below b2).new 25 [.int .u64 ux, .int .u64 uy])
    clear b2 K1 c0_0 c0_1 c0_2
    have c0_0 := (K2.out.at 0 rfl).get 0
    have c0_1 := (K2.out.at 0 rfl).get 1
    have c0_2 := (K2.out.at 0 rfl).get 2
    simp at c0_0 c0_1 c0_2
    go_wp2_with fail
    refine (C3.out _).mono ?_
    rintro e w3 ⟨rfl, b3⟩
    have K3 := Lib.hid ((K2.out.below b3).new 25 [.int .u64 vx, .int .u64 vy])
    clear b3 K2 c0_0 c0_1 c0_2
    have c2_0 := (K3.out.at 2 rfl).get 0
    have c2_1 := (K3.out.at 2 rfl).get 1
    have c3_0 := (K3.out.at 3 rfl).get 0
    have c3_1 := (K3.out.at 3 rfl).get 1
    simp at c2_0 c2_1 c3_0 c3_1
    go_wp2_with fail
    refine (C4.out _).mono ?_
    rintro e w4 ⟨rfl, b4⟩
    have K4 := Lib.hid ((K3.out.below b4).new 25 [.int .u64 sx, .int .u64 sy])
    clear b4 K3 c2_0 c2_1 c3_0 c3_1
    have c1_0 := (K4.out.at 1 rfl).get 0
    have c1_1 := (K4.out.at 1 rfl).get 1
    have c4_0 := (K4.out.at 4 rfl).get 0
    have c4_1 := (K4.out.at 4 rfl).get 1
    simp at c1_0 c1_1 c4_0 c4_1
    go_wp2_with fail
    refine (C5.out _).mono ?_
    rintro e w5 ⟨rfl, b5⟩
    have K5 := Lib.hid (K4.out.below b5)
    clear b5 K4 c1_0 c1_1 c4_0 c4_1
    go_wp2_with fail
    refine (C6.out _).mono ?_
    rintro e w6 ⟨rfl, b6⟩
    have K6 := Lib.hid (K5.out.below b6)
    clear b6 K5 
    go_wp2_with fail
    refine (C7.out _).mono ?_
    rintro e w7 ⟨rfl, b7⟩
    have K7 := Lib.hid ((K6.out.below b7).new 25 [.int .u64 0, .int .u64 p])
    clear b7 K6 
    have c1_0 := (K7.out.at 1 rfl).get 0
    have c1_1 := (K7.out.at 1 rfl).get 1
    have c5_0 := (K7.out.at 5 rfl).get 0
    have c5_1 := (K7.out.at 5 rfl).get 1
    simp at c1_0 c1_1 c5_0 c5_1
    go_wp2_with fail
    refine (C8.out _).mono ?_
    rintro e w8 ⟨rfl, b8⟩
    have K8 := Lib.hid ((K7.out.below b8).new 25 [.int .u64 gx, .int .u64 gy])
    clear b8 K7 c1_0 c1_1 c5_0 c5_1
    go_upto_region 12 with fail
    generalize w1.heap.size = g1 at *
    generalize w2.heap.size = g2 at *
    generalize w3.heap.size = g3 at *
    generalize w4.heap.size = g4 at *
    generalize w7.heap.size = g7 at *
    generalize w8.heap.size = g8 at *
    go_region_held3 (fun W => (W.cell? ⟨w.heap.size, 0, none⟩ = some (.int .u64 a) ∧ W.cell? ⟨g8, 0, none⟩ = some (.int .u64 gx) ∧ W.cell? ⟨g8, 1, none⟩ = some (.int .u64 gy))) (first | exact ⟨(K8.out.at 0 rfl).get 0, (K8.out.at 6 rfl).get 0, (K8.out.at 6 rfl).get 1⟩ | exact HT.out | exact hT | go_keep)
      (first
        | (go_at_call 12; (with_reducible refine (live24 _).mono ?_); rintro e w' ⟨rfl, hb'⟩; have K8 := Lib.hid (K8.out.drew.below hb'); have hT : (w'.cell? ⟨w.heap.size, 0, none⟩ = some (.int .u64 a) ∧ w'.cell? ⟨g8, 0, none⟩ = some (.int .u64 gx) ∧ w'.cell? ⟨g8, 1, none⟩ = some (.int .u64 gy)) := ⟨(K8.out.at 0 rfl).get 0, (K8.out.at 6 rfl).get 0, (K8.out.at 6 rfl).get 1⟩; have HT := Lib.hid hT)
        | (go_at_call 22; (with_reducible refine (C9.out _).mono ?_); rintro e w' ⟨rfl, hb'⟩; have K8 := Lib.hid (K8.out.below hb'); have hT : (w'.cell? ⟨w.heap.size, 0, none⟩ = some (.int .u64 a) ∧ w'.cell? ⟨g8, 0, none⟩ = some (.int .u64 gx) ∧ w'.cell? ⟨g8, 1, none⟩ = some (.int .u64 gy)) := ⟨(K8.out.at 0 rfl).get 0, (K8.out.at 6 rfl).get 0, (K8.out.at 6 rfl).get 1⟩; have HT := Lib.hid hT)
        | fail)
    go_wp2_with fail
    go_ret
    exact ⟨by simp, K8.out.bel⟩
set_option maxRecDepth 10000 in
theorem splits_over (l r a b c t : Nat) (w : World) (wt : IntKind.u64.wrap ((b : Int) + (c : Int)) = (t : Int)) (htb : (t : Int) < (b : Int)) :
    Calls Try.prog 5 #[.int .u64 l, .int .u64 r, .agg #[.int .u64 a, .int .u64 b, .int .u64 c]] w fun e w' => e = .returned (.bool true) ∧ Below w.heap.size w w' := by
  go_enter Try.func5, Try.ntmps5
  have K0 := Lib.hid (KV.one w 38 [.int .u64 a, .int .u64 b, .int .u64 c])
  have c0_0 := (K0.out.at 0 rfl).get 0
  have c0_1 := (K0.out.at 0 rfl).get 1
  have c0_2 := (K0.out.at 0 rfl).get 2
  simp at c0_0 c0_1 c0_2
  go_wp2_with fail
  refine (live24 _).mono ?_
  rintro e w1 ⟨rfl, b1⟩
  have K1 := Lib.hid (K0.out.below b1)
  clear b1 K0 c0_0 c0_1 c0_2
  go_wp2_with fail
  go_ret
  exact ⟨rfl, K1.out.bel⟩
theorem walk_BucketSplits (l r : Nat) (zs : List Int) (w : World) (hl : l ≤ 18446744073709551615) (hr : r ≤ 18446744073709551615) (hn : zs.length = 3) (hz : ∀ z ∈ zs, (Lit.int .u64 z).wf = true) :
    Calls Try.prog 5 #[.int .u64 l, .int .u64 r, .agg (zs.map (Value.int .u64)).toArray] w fun e w' => e = .returned (.bool true) ∧ Below w.heap.size w w' := by
  obtain ⟨a, b, c, rfl, ha, hb, hc⟩ := three_u64 hn hz
  by_cases h : b + c ≤ 18446744073709551615
  · exact splits_main l r a b c _ w hl hr ha hb hc rfl h
  · exact splits_over l r a b c (b + c - 18446744073709551616) w (by rw [IntKind.wrap_u64]; omega) (by omega)
end Go.Proofs.Ytmgjaghmnnipbaa
