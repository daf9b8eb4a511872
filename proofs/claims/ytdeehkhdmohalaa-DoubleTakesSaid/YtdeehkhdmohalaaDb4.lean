/-
  Contracts of the document's Colour, New, Later and Step of meters of two rates.
-/
import Derived.Test.YtdeehkhdmohalaaDb3
import Derived.Test.YtdeehkhdmohalaaBk2
namespace Go.Proofs.Ytdeehkhdmohalaa
open Go.RowKit
set_option linter.unusedVariables false
attribute [local go_sem ↓] Go.wp_at_zero Go.wp_at_succ

theorem rcolour_any (a : Bool) (p c : Int) (w : World) (hc : Hid (c = sgCol a p)) :
    Calls Try.prog 19 #[.bool a, .int .i64 p] w fun e w' => e = .returned (.int .i64 c) ∧ w = w' := by
  have hc1 := hc.out
  clear hc
  unfold sgCol at hc1
  cases a with
  | false =>
    rw [if_neg (by simp)] at hc1
    subst hc1
    go_enter Try.func19, Try.ntmps19
    go_wp2_with fail
    go_ret
    exact ⟨rfl, rfl⟩
  | true =>
    rw [if_pos rfl] at hc1
    by_cases h1 : p < 0
    · rw [if_pos (.inl h1)] at hc1
      subst hc1
      go_enter Try.func19, Try.ntmps19
      go_wp2_with fail
      go_ret
      exact ⟨rfl, rfl⟩
    · by_cases h2 : 2 < p
      · rw [if_pos (.inr h2)] at hc1
        subst hc1
        go_enter Try.func19, Try.ntmps19
        go_wp2_with fail
        go_ret
        exact ⟨rfl, rfl⟩
      · rw [if_neg (by omega)] at hc1
        subst hc1
        go_enter Try.func19, Try.ntmps19
        go_wp2_with fail
        go_ret
        exact ⟨rfl, rfl⟩
theorem bill_wrap {b R : Nat} (hb : b ≤ 4294967296) (hR : R = 1000000000 * b) : IntKind.u64.wrap ((b : Int) * 1000000000) = (R : Int) := by rw [IntKind.wrap_u64]; omega
set_option maxRecDepth 10000 in
set_option maxHeartbeats 1600000 in
theorem rdbnew_any (m : Mt) (c : Int) (n : Lv) (w : World) (hc : Hid (c = dbCheck m)) (hn : Hid (n = dbNew m)) :
    Calls Try.prog 7 #[.agg (mtC m).toArray] w fun e w' => e = .returned (.tuple #[.agg (lvC n).toArray, .int .i64 c]) ∧ Below w.heap.size w w' := by
  have CC := Lib.hid (fun w => rdbcheck_any m c w hc)
  have hn1 := hn.out
  unfold dbNew at hn1
  rw [← hc.out] at hn1
  by_cases h0 : c = 0
  · rw [if_pos h0] at hn1
    obtain ⟨R, hR⟩ : ∃ R, R = 1000000000 * m.burst := ⟨_, rfl⟩
    obtain ⟨X, hX⟩ : ∃ X, X = 1000000000 * m.extra := ⟨_, rfl⟩
    have hok := dbCheck_ok (hc.out.symm.trans h0)
    have wb := bill_wrap hok.2.2.2.1.2 hR
    have wx := bill_wrap hok.2.2.2.2.2 hX
    rw [← hR, ← hX] at hn1
    subst hn1
    obtain ⟨k, a, r, p, b, x⟩ := m
    dsimp only at wb wx
    subst h0
    clear hc hn hok hR hX
    show Calls Try.prog 7 #[.agg #[.int .i64 k, .bool a, .int .u64 (r : Nat), .int .u64 (p : Nat), .int .u64 (b : Nat), .int .u64 (x : Nat)]] w fun e w' => e = .returned (.tuple #[.agg #[.int .u64 (R : Nat), .int .u64 (X : Nat), .int .u64 0, .bool false], .int .i64 0]) ∧ Below w.heap.size w w'
    simp only [mtC] at CC
    go_enter Try.func7, Try.ntmps7
    have K0 := Lib.hid ((KV.one w 24 [.int .i64 k, .bool a, .int .u64 (r : Nat), .int .u64 (p : Nat), .int .u64 (b : Nat), .int .u64 (x : Nat)]).new 26 [.int .u64 0, .int .u64 0, .int .u64 0, .bool false])
    simp only [World.size_alloc] at K0
    have m0 := (K0.out.at 0 rfl).get 0
    have m1 := (K0.out.at 0 rfl).get 1
    have m2 := (K0.out.at 0 rfl).get 2
    have m3 := (K0.out.at 0 rfl).get 3
    have m4 := (K0.out.at 0 rfl).get 4
    have m5 := (K0.out.at 0 rfl).get 5
    simp at m0 m1 m2 m3 m4 m5
    go_wp2_with fail
    refine (CC.out _).mono ?_
    rintro e w1 ⟨rfl, b1⟩
    have K1 := Lib.hid (K0.out.below b1)
    clear b1 K0 m0 m1 m2 m3 m4 m5
    have m0 := (K1.out.at 0 rfl).get 0
    have m1 := (K1.out.at 0 rfl).get 1
    have m2 := (K1.out.at 0 rfl).get 2
    have m3 := (K1.out.at 0 rfl).get 3
    have m4 := (K1.out.at 0 rfl).get 4
    have m5 := (K1.out.at 0 rfl).get 5
    simp at m0 m1 m2 m3 m4 m5
    have r0 := (K1.out.at 1 rfl).get 0
    have f0 := (K1.out.at 1 rfl).frozen 0
    have r1 := (K1.out.at 1 rfl).get 1
    have f1 := (K1.out.at 1 rfl).frozen 1
    have r2 := (K1.out.at 1 rfl).get 2
    have f2 := (K1.out.at 1 rfl).frozen 2
    have r3 := (K1.out.at 1 rfl).get 3
    have f3 := (K1.out.at 1 rfl).frozen 3
    simp at r0 r1 r2 r3
    have KE := Lib.hid (K1.out.store 1 rfl [.int .u64 (R : Nat), .int .u64 (X : Nat), .int .u64 0, .bool false] rfl)
    have y0 : ((((w1.setCell ⟨w.heap.size + 1, 0, none⟩ (.int .u64 (R : Nat))).setCell ⟨w.heap.size + 1, 1, none⟩ (.int .u64 (X : Nat))).setCell ⟨w.heap.size + 1, 2, none⟩ (.int .u64 0)).setCell ⟨w.heap.size + 1, 3, none⟩ (.bool false)).cell? ⟨w.heap.size + 1, 0, none⟩ = some (.int .u64 (R : Nat)) := (KE.out.at 1 rfl).get 0
    have y1 : ((((w1.setCell ⟨w.heap.size + 1, 0, none⟩ (.int .u64 (R : Nat))).setCell ⟨w.heap.size + 1, 1, none⟩ (.int .u64 (X : Nat))).setCell ⟨w.heap.size + 1, 2, none⟩ (.int .u64 0)).setCell ⟨w.heap.size + 1, 3, none⟩ (.bool false)).cell? ⟨w.heap.size + 1, 1, none⟩ = some (.int .u64 (X : Nat)) := (KE.out.at 1 rfl).get 1
    have y2 : ((((w1.setCell ⟨w.heap.size + 1, 0, none⟩ (.int .u64 (R : Nat))).setCell ⟨w.heap.size + 1, 1, none⟩ (.int .u64 (X : Nat))).setCell ⟨w.heap.size + 1, 2, none⟩ (.int .u64 0)).setCell ⟨w.heap.size + 1, 3, none⟩ (.bool false)).cell? ⟨w.heap.size + 1, 2, none⟩ = some (.int .u64 0) := (KE.out.at 1 rfl).get 2
    have y3 : ((((w1.setCell ⟨w.heap.size + 1, 0, none⟩ (.int .u64 (R : Nat))).setCell ⟨w.heap.size + 1, 1, none⟩ (.int .u64 (X : Nat))).setCell ⟨w.heap.size + 1, 2, none⟩ (.int .u64 0)).setCell ⟨w.heap.size + 1, 3, none⟩ (.bool false)).cell? ⟨w.heap.size + 1, 3, none⟩ = some (.bool false) := (KE.out.at 1 rfl).get 3
    go_wp2_with fail
    exact bodyPost_ret (v := .tuple #[.agg #[.int .u64 (R : Nat), .int .u64 (X : Nat), .int .u64 0, .bool false], .int .i64 0]) (by simp [results, Try.results7, go_sem, y0, y1, y2, y3]) rfl ⟨rfl, KE.out.bel⟩
  · rw [if_neg h0] at hn1
    subst hn1
    have h1 : (c != 0) = true := by rw [bne_iff_ne]; exact h0
    obtain ⟨k, a, r, p, b, x⟩ := m
    clear hc hn h0
    show Calls Try.prog 7 #[.agg #[.int .i64 k, .bool a, .int .u64 (r : Nat), .int .u64 (p : Nat), .int .u64 (b : Nat), .int .u64 (x : Nat)]] w fun e w' => e = .returned (.tuple #[.agg #[.int .u64 0, .int .u64 0, .int .u64 0, .bool false], .int .i64 c]) ∧ Below w.heap.size w w'
    simp only [mtC] at CC
    go_enter Try.func7, Try.ntmps7
    have K0 := Lib.hid ((KV.one w 24 [.int .i64 k, .bool a, .int .u64 (r : Nat), .int .u64 (p : Nat), .int .u64 (b : Nat), .int .u64 (x : Nat)]).new 26 [.int .u64 0, .int .u64 0, .int .u64 0, .bool false])
    simp only [World.size_alloc] at K0
    have m0 := (K0.out.at 0 rfl).get 0
    have m1 := (K0.out.at 0 rfl).get 1
    have m2 := (K0.out.at 0 rfl).get 2
    have m3 := (K0.out.at 0 rfl).get 3
    have m4 := (K0.out.at 0 rfl).get 4
    have m5 := (K0.out.at 0 rfl).get 5
    simp at m0 m1 m2 m3 m4 m5
    go_wp2_with fail
    refine (CC.out _).mono ?_
    rintro e w1 ⟨rfl, b1⟩
    have K1 := Lib.hid (K0.out.below b1)
    clear b1 K0 m0 m1 m2 m3 m4 m5
    have r0 := (K1.out.at 1 rfl).get 0
    have f0 := (K1.out.at 1 rfl).frozen 0
    have r1 := (K1.out.at 1 rfl).get 1
    have f1 := (K1.out.at 1 rfl).frozen 1
    have r2 := (K1.out.at 1 rfl).get 2
    have f2 := (K1.out.at 1 rfl).frozen 2
    have r3 := (K1.out.at 1 rfl).get 3
    have f3 := (K1.out.at 1 rfl).frozen 3
    simp at r0 r1 r2 r3
    have KE := Lib.hid (K1.out.store 1 rfl [.int .u64 0, .int .u64 0, .int .u64 0, .bool false] rfl)
    have y0 : ((((w1.setCell ⟨w.heap.size + 1, 0, none⟩ (.int .u64 0)).setCell ⟨w.heap.size + 1, 1, none⟩ (.int .u64 0)).setCell ⟨w.heap.size + 1, 2, none⟩ (.int .u64 0)).setCell ⟨w.heap.size + 1, 3, none⟩ (.bool false)).cell? ⟨w.heap.size + 1, 0, none⟩ = some (.int .u64 0) := (KE.out.at 1 rfl).get 0
    have y1 : ((((w1.setCell ⟨w.heap.size + 1, 0, none⟩ (.int .u64 0)).setCell ⟨w.heap.size + 1, 1, none⟩ (.int .u64 0)).setCell ⟨w.heap.size + 1, 2, none⟩ (.int .u64 0)).setCell ⟨w.heap.size + 1, 3, none⟩ (.bool false)).cell? ⟨w.heap.size + 1, 1, none⟩ = some (.int .u64 0) := (KE.out.at 1 rfl).get 1
    have y2 : ((((w1.setCell ⟨w.heap.size + 1, 0, none⟩ (.int .u64 0)).setCell ⟨w.heap.size + 1, 1, none⟩ (.int .u64 0)).setCell ⟨w.heap.size + 1, 2, none⟩ (.int .u64 0)).setCell ⟨w.heap.size + 1, 3, none⟩ (.bool false)).cell? ⟨w.heap.size + 1, 2, none⟩ = some (.int .u64 0) := (KE.out.at 1 rfl).get 2
    have y3 : ((((w1.setCell ⟨w.heap.size + 1, 0, none⟩ (.int .u64 0)).setCell ⟨w.heap.size + 1, 1, none⟩ (.int .u64 0)).setCell ⟨w.heap.size + 1, 2, none⟩ (.int .u64 0)).setCell ⟨w.heap.size + 1, 3, none⟩ (.bool false)).cell? ⟨w.heap.size + 1, 3, none⟩ = some (.bool false) := (KE.out.at 1 rfl).get 3
    go_wp2_with fail
    exact bodyPost_ret (v := .tuple #[.agg #[.int .u64 0, .int .u64 0, .int .u64 0, .bool false], .int .i64 c]) (by simp [results, Try.results7, go_sem, y0, y1, y2, y3]) rfl ⟨rfl, KE.out.bel⟩
set_option maxRecDepth 10000 in
set_option maxHeartbeats 3200000 in
theorem rlater_any (k : Int) (a : Bool) (r p b x o t0 l t R X q0 q1 now el : Nat) (sn : Bool) (w : World) (hb : b ≤ 4294967296) (hx : x ≤ 4294967296) (hR : R = 1000000000 * b) (hX : X = 1000000000 * x)
    (ho : o ≤ 18446744073709551615) (ht0 : t0 ≤ 18446744073709551615) (hl : l ≤ 18446744073709551615) (hr : r ≤ 18446744073709551615) (hp : p ≤ 18446744073709551615) (ht : t ≤ 18446744073709551615)
    (hnow : Hid (now = rtNow l sn t)) (hel : Hid (el = rtGap l sn t)) (hq0 : Hid (q0 = o + bkPut o R (r * el))) (hq1 : Hid (q1 = t0 + bkPut t0 X (p * el))) :
    Calls Try.prog 18 #[.agg #[.int .i64 k, .bool a, .int .u64 (r : Nat), .int .u64 (p : Nat), .int .u64 (b : Nat), .int .u64 (x : Nat)], .agg #[.int .u64 (o : Nat), .int .u64 (t0 : Nat), .int .u64 (l : Nat), .bool sn], .int .u64 t] w fun e w' => e = .returned (.agg #[.int .u64 (q0 : Nat), .int .u64 (q1 : Nat), .int .u64 (now : Nat), .bool true]) ∧ Below w.heap.size w w' := by
  have hel64 : el ≤ 18446744073709551615 := by
    rw [hel.out]
    unfold rtGap
    split <;> omega
  have wb := bill_wrap hb hR
  have wx := bill_wrap hx hX
  have hR64 : R ≤ 18446744073709551615 := by omega
  have hX64 : X ≤ 18446744073709551615 := by omega
  obtain ⟨x0, hx0⟩ : ∃ v, v = whi (r * el - bkPut o R (r * el)) := ⟨_, rfl⟩
  obtain ⟨y0, hy0⟩ : ∃ v, v = wlo (r * el - bkPut o R (r * el)) := ⟨_, rfl⟩
  obtain ⟨x1, hx1⟩ : ∃ v, v = whi (p * el - bkPut t0 X (p * el)) := ⟨_, rfl⟩
  obtain ⟨y1, hy1⟩ : ∃ v, v = wlo (p * el - bkPut t0 X (p * el)) := ⟨_, rfl⟩
  have C0 : Hid (∀ w, Calls Try.prog 28 #[.int .u64 o, .int .u64 R, .int .u64 r, .int .u64 el] w fun e w' => e = .returned (.tuple #[.int .u64 q0, .agg #[.int .u64 x0, .int .u64 y0]]) ∧ Below w.heap.size w w') := fun w => rbkgrow_any o R r el x0 y0 q0 w ho hR64 hr hel64 hq0 hx0 hy0
  have C1 : Hid (∀ w, Calls Try.prog 28 #[.int .u64 t0, .int .u64 X, .int .u64 p, .int .u64 el] w fun e w' => e = .returned (.tuple #[.int .u64 q1, .agg #[.int .u64 x1, .int .u64 y1]]) ∧ Below w.heap.size w w') := fun w => rbkgrow_any t0 X p el x1 y1 q1 w ht0 hX64 hp hel64 hq1 hx1 hy1
  have CS : Hid (∀ w, Calls Try.prog 27 #[.int .u64 l, .bool sn, .int .u64 t] w fun e w' => e = .returned (.tuple #[.int .u64 now, .int .u64 el]) ∧ w = w') := fun w => by
    rw [hnow.out, hel.out]
    exact rrtstep_any l t sn w ht
  clear hb hx hR hX ho ht0 hl hr hp ht hnow hel hq0 hq1 hel64 hR64 hX64 hx0 hy0 hx1 hy1
  go_enter Try.func18, Try.ntmps18
  have K0 := Lib.hid (KV.three w 24 26 26 [.int .i64 k, .bool a, .int .u64 (r : Nat), .int .u64 (p : Nat), .int .u64 (b : Nat), .int .u64 (x : Nat)] [.int .u64 (o : Nat), .int .u64 (t0 : Nat), .int .u64 (l : Nat), .bool sn] [.int .u64 0, .int .u64 0, .int .u64 0, .bool false])
  have v0 := (K0.out.at 1 rfl).get 0
  have v1 := (K0.out.at 1 rfl).get 1
  have v2 := (K0.out.at 1 rfl).get 2
  have v3 := (K0.out.at 1 rfl).get 3
  simp at v0 v1 v2 v3
  have m0 := (K0.out.at 0 rfl).get 0
  have m1 := (K0.out.at 0 rfl).get 1
  have m2 := (K0.out.at 0 rfl).get 2
  have m3 := (K0.out.at 0 rfl).get 3
  have m4 := (K0.out.at 0 rfl).get 4
  have m5 := (K0.out.at 0 rfl).get 5
  simp at m0 m1 m2 m3 m4 m5
  go_wp2_with fail
  refine (CS.out _).mono ?_
  rintro e w1 ⟨rfl, rfl⟩
  go_wp2_with fail
  refine (C0.out _).mono ?_
  rintro e w2 ⟨rfl, b2⟩
  have K1 := Lib.hid ((K0.out.below b2).new 54 [.int .u64 (x0 : Nat), .int .u64 (y0 : Nat)])
  clear b2 K0 v0 v1 v2 v3 m0 m1 m2 m3 m4 m5
  go_upto_region 3 with fail
  generalize w2.heap.size = g2 at *
  generalize w2.alloc (.cells #[.int .u64 (x0 : Nat), .int .u64 (y0 : Nat)] 54) = W2 at *
  have v0 := (K1.out.at 1 rfl).get 0
  have v1 := (K1.out.at 1 rfl).get 1
  have v2 := (K1.out.at 1 rfl).get 2
  have v3 := (K1.out.at 1 rfl).get 3
  simp at v0 v1 v2 v3
  have m0 := (K1.out.at 0 rfl).get 0
  have m1 := (K1.out.at 0 rfl).get 1
  have m2 := (K1.out.at 0 rfl).get 2
  have m3 := (K1.out.at 0 rfl).get 3
  have m4 := (K1.out.at 0 rfl).get 4
  have m5 := (K1.out.at 0 rfl).get 5
  simp at m0 m1 m2 m3 m4 m5
  go_wp2_with fail
  refine (C1.out _).mono ?_
  rintro e w3 ⟨rfl, b3⟩
  have K2 := Lib.hid ((K1.out.below b3).new 54 [.int .u64 (x1 : Nat), .int .u64 (y1 : Nat)])
  clear b3 K1 v0 v1 v2 v3 m0 m1 m2 m3 m4 m5
  go_upto_region 4 with fail
  generalize w3.heap.size = g3 at *
  generalize w3.alloc (.cells #[.int .u64 (x1 : Nat), .int .u64 (y1 : Nat)] 54) = W3 at *
  have r0 := (K2.out.at 2 rfl).get 0
  have f0 := (K2.out.at 2 rfl).frozen 0
  have r1 := (K2.out.at 2 rfl).get 1
  have f1 := (K2.out.at 2 rfl).frozen 1
  have r2 := (K2.out.at 2 rfl).get 2
  have f2 := (K2.out.at 2 rfl).frozen 2
  have r3 := (K2.out.at 2 rfl).get 3
  have f3 := (K2.out.at 2 rfl).frozen 3
  simp at r0 r1 r2 r3
  have KE := Lib.hid (K2.out.store 2 rfl [.int .u64 (q0 : Nat), .int .u64 (q1 : Nat), .int .u64 (now : Nat), .bool true] rfl)
  have z0 : ((((W3.setCell ⟨w.heap.size + 2, 0, none⟩ (.int .u64 (q0 : Nat))).setCell ⟨w.heap.size + 2, 1, none⟩ (.int .u64 (q1 : Nat))).setCell ⟨w.heap.size + 2, 2, none⟩ (.int .u64 (now : Nat))).setCell ⟨w.heap.size + 2, 3, none⟩ (.bool true)).cell? ⟨w.heap.size + 2, 0, none⟩ = some (.int .u64 (q0 : Nat)) := (KE.out.at 2 rfl).get 0
  have z1 : ((((W3.setCell ⟨w.heap.size + 2, 0, none⟩ (.int .u64 (q0 : Nat))).setCell ⟨w.heap.size + 2, 1, none⟩ (.int .u64 (q1 : Nat))).setCell ⟨w.heap.size + 2, 2, none⟩ (.int .u64 (now : Nat))).setCell ⟨w.heap.size + 2, 3, none⟩ (.bool true)).cell? ⟨w.heap.size + 2, 1, none⟩ = some (.int .u64 (q1 : Nat)) := (KE.out.at 2 rfl).get 1
  have z2 : ((((W3.setCell ⟨w.heap.size + 2, 0, none⟩ (.int .u64 (q0 : Nat))).setCell ⟨w.heap.size + 2, 1, none⟩ (.int .u64 (q1 : Nat))).setCell ⟨w.heap.size + 2, 2, none⟩ (.int .u64 (now : Nat))).setCell ⟨w.heap.size + 2, 3, none⟩ (.bool true)).cell? ⟨w.heap.size + 2, 2, none⟩ = some (.int .u64 (now : Nat)) := (KE.out.at 2 rfl).get 2
  have z3 : ((((W3.setCell ⟨w.heap.size + 2, 0, none⟩ (.int .u64 (q0 : Nat))).setCell ⟨w.heap.size + 2, 1, none⟩ (.int .u64 (q1 : Nat))).setCell ⟨w.heap.size + 2, 2, none⟩ (.int .u64 (now : Nat))).setCell ⟨w.heap.size + 2, 3, none⟩ (.bool true)).cell? ⟨w.heap.size + 2, 3, none⟩ = some (.bool true) := (KE.out.at 2 rfl).get 3
  go_wp2_with fail
  exact bodyPost_ret (v := .agg #[.int .u64 (q0 : Nat), .int .u64 (q1 : Nat), .int .u64 (now : Nat), .bool true]) (by simp [results, Try.results18, go_sem, z0, z1, z2, z3]) rfl ⟨rfl, KE.out.bel⟩
set_option maxRecDepth 10000 in
set_option maxHeartbeats 6400000 in
theorem rdbstep_any (m : Mt) (s : Lv) (t : Nat) (size pre : Int) (n : Lv) (c : Int) (w : World) (hm : MtOk m) (hs : LvOk s) (ht : t ≤ 18446744073709551615) (hz : size ≤ 9223372036854775807) (hr : Hid (dbStep m s t size pre = (n, c))) :
    Calls Try.prog 9 #[.agg (mtC m).toArray, .agg (lvC s).toArray, .int .u64 t, .int .i64 size, .int .i64 pre] w fun e w' => e = .returned (.tuple #[.agg (lvC n).toArray, .int .i64 c]) ∧ Below w.heap.size w w' := by
  obtain ⟨z, hzc⟩ : ∃ z, z = dbCheck m := ⟨_, rfl⟩
  have CC := Lib.hid (fun w => rdbcheck_any m z w hzc)
  have hr1 := hr.out
  clear hr
  unfold dbStep at hr1
  rw [← hzc] at hr1
  by_cases hbad : z ≠ 0 ∨ size < 0
  · rw [if_pos hbad] at hr1
    injection hr1 with h1 h2
    subst h1 h2
    obtain ⟨k, a, r, p, b, x⟩ := m
    obtain ⟨o, t0, l, sn⟩ := s
    simp only [mtC] at CC
    show Calls Try.prog 9 #[.agg #[.int .i64 k, .bool a, .int .u64 (r : Nat), .int .u64 (p : Nat), .int .u64 (b : Nat), .int .u64 (x : Nat)], .agg #[.int .u64 (o : Nat), .int .u64 (t0 : Nat), .int .u64 (l : Nat), .bool sn], .int .u64 t, .int .i64 size, .int .i64 pre] w fun e w' => e = .returned (.tuple #[.agg #[.int .u64 (o : Nat), .int .u64 (t0 : Nat), .int .u64 (l : Nat), .bool sn], .int .i64 2]) ∧ Below w.heap.size w w'
    clear hm hs ht hz hzc
    by_cases hz0 : z = 0
    · have hneg : size < 0 := hbad.resolve_left (fun h => h hz0)
      subst hz0
      clear hbad
      go_enter Try.func9, Try.ntmps9
      have K0 := Lib.hid (KV.three w 24 26 26 [.int .i64 k, .bool a, .int .u64 (r : Nat), .int .u64 (p : Nat), .int .u64 (b : Nat), .int .u64 (x : Nat)] [.int .u64 (o : Nat), .int .u64 (t0 : Nat), .int .u64 (l : Nat), .bool sn] [.int .u64 0, .int .u64 0, .int .u64 0, .bool false])
      have m0 := (K0.out.at 0 rfl).get 0
      have m1 := (K0.out.at 0 rfl).get 1
      have m2 := (K0.out.at 0 rfl).get 2
      have m3 := (K0.out.at 0 rfl).get 3
      have m4 := (K0.out.at 0 rfl).get 4
      have m5 := (K0.out.at 0 rfl).get 5
      simp at m0 m1 m2 m3 m4 m5
      go_wp2_with fail
      refine (CC.out _).mono ?_
      rintro e w1 ⟨rfl, b1⟩
      have K1 := Lib.hid (K0.out.below b1)
      clear b1 K0 m0 m1 m2 m3 m4 m5
      have v0 := (K1.out.at 1 rfl).get 0
      have v1 := (K1.out.at 1 rfl).get 1
      have v2 := (K1.out.at 1 rfl).get 2
      have v3 := (K1.out.at 1 rfl).get 3
      simp at v0 v1 v2 v3
      have r0 := (K1.out.at 2 rfl).get 0
      have f0 := (K1.out.at 2 rfl).frozen 0
      have r1 := (K1.out.at 2 rfl).get 1
      have f1 := (K1.out.at 2 rfl).frozen 1
      have r2 := (K1.out.at 2 rfl).get 2
      have f2 := (K1.out.at 2 rfl).frozen 2
      have r3 := (K1.out.at 2 rfl).get 3
      have f3 := (K1.out.at 2 rfl).frozen 3
      simp at r0 r1 r2 r3
      have KE := Lib.hid (K1.out.store 2 rfl [.int .u64 (o : Nat), .int .u64 (t0 : Nat), .int .u64 (l : Nat), .bool sn] rfl)
      have y0 : ((((w1.setCell ⟨w.heap.size + 2, 0, none⟩ (.int .u64 (o : Nat))).setCell ⟨w.heap.size + 2, 1, none⟩ (.int .u64 (t0 : Nat))).setCell ⟨w.heap.size + 2, 2, none⟩ (.int .u64 (l : Nat))).setCell ⟨w.heap.size + 2, 3, none⟩ (.bool sn)).cell? ⟨w.heap.size + 2, 0, none⟩ = some (.int .u64 (o : Nat)) := (KE.out.at 2 rfl).get 0
      have y1 : ((((w1.setCell ⟨w.heap.size + 2, 0, none⟩ (.int .u64 (o : Nat))).setCell ⟨w.heap.size + 2, 1, none⟩ (.int .u64 (t0 : Nat))).setCell ⟨w.heap.size + 2, 2, none⟩ (.int .u64 (l : Nat))).setCell ⟨w.heap.size + 2, 3, none⟩ (.bool sn)).cell? ⟨w.heap.size + 2, 1, none⟩ = some (.int .u64 (t0 : Nat)) := (KE.out.at 2 rfl).get 1
      have y2 : ((((w1.setCell ⟨w.heap.size + 2, 0, none⟩ (.int .u64 (o : Nat))).setCell ⟨w.heap.size + 2, 1, none⟩ (.int .u64 (t0 : Nat))).setCell ⟨w.heap.size + 2, 2, none⟩ (.int .u64 (l : Nat))).setCell ⟨w.heap.size + 2, 3, none⟩ (.bool sn)).cell? ⟨w.heap.size + 2, 2, none⟩ = some (.int .u64 (l : Nat)) := (KE.out.at 2 rfl).get 2
      have y3 : ((((w1.setCell ⟨w.heap.size + 2, 0, none⟩ (.int .u64 (o : Nat))).setCell ⟨w.heap.size + 2, 1, none⟩ (.int .u64 (t0 : Nat))).setCell ⟨w.heap.size + 2, 2, none⟩ (.int .u64 (l : Nat))).setCell ⟨w.heap.size + 2, 3, none⟩ (.bool sn)).cell? ⟨w.heap.size + 2, 3, none⟩ = some (.bool sn) := (KE.out.at 2 rfl).get 3
      go_wp2_with fail
      exact bodyPost_ret (v := .tuple #[.agg #[.int .u64 (o : Nat), .int .u64 (t0 : Nat), .int .u64 (l : Nat), .bool sn], .int .i64 2]) (by simp [results, Try.results9, go_sem, y0, y1, y2, y3]) rfl ⟨rfl, KE.out.bel⟩
    · have h1 : (z != 0) = true := by rw [bne_iff_ne]; exact hz0
      clear hbad hz0
      go_enter Try.func9, Try.ntmps9
      have K0 := Lib.hid (KV.three w 24 26 26 [.int .i64 k, .bool a, .int .u64 (r : Nat), .int .u64 (p : Nat), .int .u64 (b : Nat), .int .u64 (x : Nat)] [.int .u64 (o : Nat), .int .u64 (t0 : Nat), .int .u64 (l : Nat), .bool sn] [.int .u64 0, .int .u64 0, .int .u64 0, .bool false])
      have m0 := (K0.out.at 0 rfl).get 0
      have m1 := (K0.out.at 0 rfl).get 1
      have m2 := (K0.out.at 0 rfl).get 2
      have m3 := (K0.out.at 0 rfl).get 3
      have m4 := (K0.out.at 0 rfl).get 4
      have m5 := (K0.out.at 0 rfl).get 5
      simp at m0 m1 m2 m3 m4 m5
      go_wp2_with fail
      refine (CC.out _).mono ?_
      rintro e w1 ⟨rfl, b1⟩
      have K1 := Lib.hid (K0.out.below b1)
      clear b1 K0 m0 m1 m2 m3 m4 m5
      have v0 := (K1.out.at 1 rfl).get 0
      have v1 := (K1.out.at 1 rfl).get 1
      have v2 := (K1.out.at 1 rfl).get 2
      have v3 := (K1.out.at 1 rfl).get 3
      simp at v0 v1 v2 v3
      have r0 := (K1.out.at 2 rfl).get 0
      have f0 := (K1.out.at 2 rfl).frozen 0
      have r1 := (K1.out.at 2 rfl).get 1
      have f1 := (K1.out.at 2 rfl).frozen 1
      have r2 := (K1.out.at 2 rfl).get 2
      have f2 := (K1.out.at 2 rfl).frozen 2
      have r3 := (K1.out.at 2 rfl).get 3
      have f3 := (K1.out.at 2 rfl).frozen 3
      simp at r0 r1 r2 r3
      have KE := Lib.hid (K1.out.store 2 rfl [.int .u64 (o : Nat), .int .u64 (t0 : Nat), .int .u64 (l : Nat), .bool sn] rfl)
      have y0 : ((((w1.setCell ⟨w.heap.size + 2, 0, none⟩ (.int .u64 (o : Nat))).setCell ⟨w.heap.size + 2, 1, none⟩ (.int .u64 (t0 : Nat))).setCell ⟨w.heap.size + 2, 2, none⟩ (.int .u64 (l : Nat))).setCell ⟨w.heap.size + 2, 3, none⟩ (.bool sn)).cell? ⟨w.heap.size + 2, 0, none⟩ = some (.int .u64 (o : Nat)) := (KE.out.at 2 rfl).get 0
      have y1 : ((((w1.setCell ⟨w.heap.size + 2, 0, none⟩ (.int .u64 (o : Nat))).setCell ⟨w.heap.size + 2, 1, none⟩ (.int .u64 (t0 : Nat))).setCell ⟨w.heap.size + 2, 2, none⟩ (.int .u64 (l : Nat))).setCell ⟨w.heap.size + 2, 3, none⟩ (.bool sn)).cell? ⟨w.heap.size + 2, 1, none⟩ = some (.int .u64 (t0 : Nat)) := (KE.out.at 2 rfl).get 1
      have y2 : ((((w1.setCell ⟨w.heap.size + 2, 0, none⟩ (.int .u64 (o : Nat))).setCell ⟨w.heap.size + 2, 1, none⟩ (.int .u64 (t0 : Nat))).setCell ⟨w.heap.size + 2, 2, none⟩ (.int .u64 (l : Nat))).setCell ⟨w.heap.size + 2, 3, none⟩ (.bool sn)).cell? ⟨w.heap.size + 2, 2, none⟩ = some (.int .u64 (l : Nat)) := (KE.out.at 2 rfl).get 2
      have y3 : ((((w1.setCell ⟨w.heap.size + 2, 0, none⟩ (.int .u64 (o : Nat))).setCell ⟨w.heap.size + 2, 1, none⟩ (.int .u64 (t0 : Nat))).setCell ⟨w.heap.size + 2, 2, none⟩ (.int .u64 (l : Nat))).setCell ⟨w.heap.size + 2, 3, none⟩ (.bool sn)).cell? ⟨w.heap.size + 2, 3, none⟩ = some (.bool sn) := (KE.out.at 2 rfl).get 3
      go_wp2_with fail
      exact bodyPost_ret (v := .tuple #[.agg #[.int .u64 (o : Nat), .int .u64 (t0 : Nat), .int .u64 (l : Nat), .bool sn], .int .i64 2]) (by simp [results, Try.results9, go_sem, y0, y1, y2, y3]) rfl ⟨rfl, KE.out.bel⟩
  · rw [if_neg hbad] at hr1
    have hz0 : z = 0 := Classical.not_not.1 fun h => hbad (.inl h)
    have hpos : ¬ size < 0 := fun h => hbad (.inr h)
    have hok := dbCheck_ok (hzc.symm.trans hz0)
    subst hz0
    obtain ⟨now, hnow⟩ : ∃ v, v = rtNow s.last s.seen t := ⟨_, rfl⟩
    obtain ⟨el, hel⟩ : ∃ v, v = rtGap s.last s.seen t := ⟨_, rfl⟩
    obtain ⟨R, hR⟩ : ∃ v, v = 1000000000 * m.burst := ⟨_, rfl⟩
    obtain ⟨X, hX⟩ : ∃ v, v = 1000000000 * m.extra := ⟨_, rfl⟩
    obtain ⟨q0, hq0⟩ : ∃ v, v = s.one + bkPut s.one R (m.rate * el) := ⟨_, rfl⟩
    obtain ⟨q1, hq1⟩ : ∃ v, v = s.two + bkPut s.two X (m.peak * el) := ⟨_, rfl⟩
    have hL : dbLater m s t = ⟨q0, q1, now, true⟩ := by
      unfold dbLater
      rw [← hel, ← hnow, ← hR, ← hX, ← hq0, ← hq1]
    obtain ⟨d, hd⟩ : ∃ d, d = sgCol m.aware pre := ⟨_, rfl⟩
    have hd3 := sgCol_in m.aware pre
    rw [← hd] at hd3
    rw [hL, ← hd] at hr1
    obtain ⟨b1, hb1⟩ : ∃ v, v = bkCan q1 size := ⟨_, rfl⟩
    obtain ⟨b0, hb0⟩ : ∃ v, v = bkCan q0 size := ⟨_, rfl⟩
    obtain ⟨s1, hs1⟩ : ∃ v, v = bkLeft q1 size := ⟨_, rfl⟩
    obtain ⟨s0, hs0⟩ : ∃ v, v = bkLeft q0 size := ⟨_, rfl⟩
    obtain ⟨k, a, r, p, b, x⟩ := m
    obtain ⟨o, t0, l, sn⟩ := s
    dsimp only at hnow hel hR hX hq0 hq1 hok hd
    have hb := hok.2.2.2.1.2
    have hx := hok.2.2.2.2.2
    have hR64 : R ≤ 18446744073709551615 := by omega
    have hX64 : X ≤ 18446744073709551615 := by omega
    have hq064 : q0 ≤ 18446744073709551615 := bk_level2 hs.one hR64 hq0
    have hq164 : q1 ≤ 18446744073709551615 := bk_level2 hs.two hX64 hq1
    have CL := Lib.hid (fun w => rlater_any k a r p b x o t0 l t R X q0 q1 now el sn w hb hx hR hX hs.one hs.two hs.last hm.rate hm.peak ht hnow hel hq0 hq1)
    have CK := Lib.hid (fun w => rcolour_any a pre d w hd)
    have C1 := Lib.hid (fun w => rbktake_any q1 s1 size b1 w hq164 hz hs1 hb1)
    have C0 := Lib.hid (fun w => rbktake_any q0 s0 size b0 w hq064 hz hs0 hb0)
    simp only [mtC] at CC
    have hd4 : d = 2 ∨ d = 0 ∨ d = 1 := by omega
    clear hbad hzc hm hs ht hz hok hb hx hR64 hX64 hR hX hL hnow hel hq0 hq1 hd hd3 hq064 hq164
    rcases hd4 with rfl | rfl | rfl
    · rw [dbTake_red] at hr1
      injection hr1 with h1 h2
      subst h1 h2
      clear hb1 hb0 hs1 hs0
      show Calls Try.prog 9 #[.agg #[.int .i64 k, .bool a, .int .u64 (r : Nat), .int .u64 (p : Nat), .int .u64 (b : Nat), .int .u64 (x : Nat)], .agg #[.int .u64 (o : Nat), .int .u64 (t0 : Nat), .int .u64 (l : Nat), .bool sn], .int .u64 t, .int .i64 size, .int .i64 pre] w fun e w' => e = .returned (.tuple #[.agg #[.int .u64 (q0 : Nat), .int .u64 (q1 : Nat), .int .u64 (now : Nat), .bool true], .int .i64 2]) ∧ Below w.heap.size w w'
      go_enter Try.func9, Try.ntmps9
      have K0 := Lib.hid (KV.three w 24 26 26 [.int .i64 k, .bool a, .int .u64 (r : Nat), .int .u64 (p : Nat), .int .u64 (b : Nat), .int .u64 (x : Nat)] [.int .u64 (o : Nat), .int .u64 (t0 : Nat), .int .u64 (l : Nat), .bool sn] [.int .u64 0, .int .u64 0, .int .u64 0, .bool false])
      have m0 := (K0.out.at 0 rfl).get 0
      have m1 := (K0.out.at 0 rfl).get 1
      have m2 := (K0.out.at 0 rfl).get 2
      have m3 := (K0.out.at 0 rfl).get 3
      have m4 := (K0.out.at 0 rfl).get 4
      have m5 := (K0.out.at 0 rfl).get 5
      simp at m0 m1 m2 m3 m4 m5
      go_wp2_with fail
      refine (CC.out _).mono ?_
      rintro e w1 ⟨rfl, b1⟩
      have K1 := Lib.hid (K0.out.below b1)
      clear b1 K0 m0 m1 m2 m3 m4 m5
      have m0 := (K1.out.at 0 rfl).get 0
      have m1 := (K1.out.at 0 rfl).get 1
      have m2 := (K1.out.at 0 rfl).get 2
      have m3 := (K1.out.at 0 rfl).get 3
      have m4 := (K1.out.at 0 rfl).get 4
      have m5 := (K1.out.at 0 rfl).get 5
      simp at m0 m1 m2 m3 m4 m5
      have v0 := (K1.out.at 1 rfl).get 0
      have v1 := (K1.out.at 1 rfl).get 1
      have v2 := (K1.out.at 1 rfl).get 2
      have v3 := (K1.out.at 1 rfl).get 3
      simp at v0 v1 v2 v3
      go_wp2_with fail
      refine (CL.out _).mono ?_
      rintro e w2 ⟨rfl, b2⟩
      have K2 := Lib.hid ((K1.out.below b2).new 26 [.int .u64 (q0 : Nat), .int .u64 (q1 : Nat), .int .u64 (now : Nat), .bool true])
      clear b2 K1 m0 m1 m2 m3 m4 m5 v0 v1 v2 v3
      go_upto_region 4 with fail
      generalize w2.heap.size = g2 at *
      generalize w2.alloc (.cells #[.int .u64 (q0 : Nat), .int .u64 (q1 : Nat), .int .u64 (now : Nat), .bool true] 26) = W2 at *
      have m0 := (K2.out.at 0 rfl).get 0
      have m1 := (K2.out.at 0 rfl).get 1
      have m2 := (K2.out.at 0 rfl).get 2
      have m3 := (K2.out.at 0 rfl).get 3
      have m4 := (K2.out.at 0 rfl).get 4
      have m5 := (K2.out.at 0 rfl).get 5
      simp at m0 m1 m2 m3 m4 m5
      have v0 := (K2.out.at 3 rfl).get 0
      have v1 := (K2.out.at 3 rfl).get 1
      have v2 := (K2.out.at 3 rfl).get 2
      have v3 := (K2.out.at 3 rfl).get 3
      simp at v0 v1 v2 v3
      go_wp2_with fail
      refine (CK.out _).mono ?_
      rintro e w3 ⟨rfl, rfl⟩
      go_wp2_with fail
      refine (C1.out _).mono ?_
      rintro e w4 ⟨rfl, b4⟩
      have K3 := Lib.hid (K2.out.below b4)
      clear b4 K2 m0 m1 m2 m3 m4 m5 v0 v1 v2 v3
      have v0 := (K3.out.at 3 rfl).get 0
      have v1 := (K3.out.at 3 rfl).get 1
      have v2 := (K3.out.at 3 rfl).get 2
      have v3 := (K3.out.at 3 rfl).get 3
      simp at v0 v1 v2 v3
      go_wp2_with fail
      refine (C0.out _).mono ?_
      rintro e w5 ⟨rfl, b5⟩
      have K4 := Lib.hid (K3.out.below b5)
      clear b5 K3 v0 v1 v2 v3
      have v0 := (K4.out.at 3 rfl).get 0
      have v1 := (K4.out.at 3 rfl).get 1
      have v2 := (K4.out.at 3 rfl).get 2
      have v3 := (K4.out.at 3 rfl).get 3
      simp at v0 v1 v2 v3
      have r0 := (K4.out.at 2 rfl).get 0
      have f0 := (K4.out.at 2 rfl).frozen 0
      have r1 := (K4.out.at 2 rfl).get 1
      have f1 := (K4.out.at 2 rfl).frozen 1
      have r2 := (K4.out.at 2 rfl).get 2
      have f2 := (K4.out.at 2 rfl).frozen 2
      have r3 := (K4.out.at 2 rfl).get 3
      have f3 := (K4.out.at 2 rfl).frozen 3
      simp at r0 r1 r2 r3
      have KE := Lib.hid (K4.out.store 2 rfl [.int .u64 (q0 : Nat), .int .u64 (q1 : Nat), .int .u64 (now : Nat), .bool true] rfl)
      have y0 : ((((w5.setCell ⟨w.heap.size + 2, 0, none⟩ (.int .u64 (q0 : Nat))).setCell ⟨w.heap.size + 2, 1, none⟩ (.int .u64 (q1 : Nat))).setCell ⟨w.heap.size + 2, 2, none⟩ (.int .u64 (now : Nat))).setCell ⟨w.heap.size + 2, 3, none⟩ (.bool true)).cell? ⟨w.heap.size + 2, 0, none⟩ = some (.int .u64 (q0 : Nat)) := (KE.out.at 2 rfl).get 0
      have y1 : ((((w5.setCell ⟨w.heap.size + 2, 0, none⟩ (.int .u64 (q0 : Nat))).setCell ⟨w.heap.size + 2, 1, none⟩ (.int .u64 (q1 : Nat))).setCell ⟨w.heap.size + 2, 2, none⟩ (.int .u64 (now : Nat))).setCell ⟨w.heap.size + 2, 3, none⟩ (.bool true)).cell? ⟨w.heap.size + 2, 1, none⟩ = some (.int .u64 (q1 : Nat)) := (KE.out.at 2 rfl).get 1
      have y2 : ((((w5.setCell ⟨w.heap.size + 2, 0, none⟩ (.int .u64 (q0 : Nat))).setCell ⟨w.heap.size + 2, 1, none⟩ (.int .u64 (q1 : Nat))).setCell ⟨w.heap.size + 2, 2, none⟩ (.int .u64 (now : Nat))).setCell ⟨w.heap.size + 2, 3, none⟩ (.bool true)).cell? ⟨w.heap.size + 2, 2, none⟩ = some (.int .u64 (now : Nat)) := (KE.out.at 2 rfl).get 2
      have y3 : ((((w5.setCell ⟨w.heap.size + 2, 0, none⟩ (.int .u64 (q0 : Nat))).setCell ⟨w.heap.size + 2, 1, none⟩ (.int .u64 (q1 : Nat))).setCell ⟨w.heap.size + 2, 2, none⟩ (.int .u64 (now : Nat))).setCell ⟨w.heap.size + 2, 3, none⟩ (.bool true)).cell? ⟨w.heap.size + 2, 3, none⟩ = some (.bool true) := (KE.out.at 2 rfl).get 3
      go_wp2_with fail
      exact bodyPost_ret (v := .tuple #[.agg #[.int .u64 (q0 : Nat), .int .u64 (q1 : Nat), .int .u64 (now : Nat), .bool true], .int .i64 2]) (by simp [results, Try.results9, go_sem, y0, y1, y2, y3]) rfl ⟨rfl, KE.out.bel⟩
    · cases b1 with
      | false =>
        rw [dbTake_empty hb1.symm] at hr1
        injection hr1 with h1 h2
        subst h1 h2
        clear hb1 hb0 hs1 hs0
        show Calls Try.prog 9 #[.agg #[.int .i64 k, .bool a, .int .u64 (r : Nat), .int .u64 (p : Nat), .int .u64 (b : Nat), .int .u64 (x : Nat)], .agg #[.int .u64 (o : Nat), .int .u64 (t0 : Nat), .int .u64 (l : Nat), .bool sn], .int .u64 t, .int .i64 size, .int .i64 pre] w fun e w' => e = .returned (.tuple #[.agg #[.int .u64 (q0 : Nat), .int .u64 (q1 : Nat), .int .u64 (now : Nat), .bool true], .int .i64 2]) ∧ Below w.heap.size w w'
        go_enter Try.func9, Try.ntmps9
        have K0 := Lib.hid (KV.three w 24 26 26 [.int .i64 k, .bool a, .int .u64 (r : Nat), .int .u64 (p : Nat), .int .u64 (b : Nat), .int .u64 (x : Nat)] [.int .u64 (o : Nat), .int .u64 (t0 : Nat), .int .u64 (l : Nat), .bool sn] [.int .u64 0, .int .u64 0, .int .u64 0, .bool false])
        have m0 := (K0.out.at 0 rfl).get 0
        have m1 := (K0.out.at 0 rfl).get 1
        have m2 := (K0.out.at 0 rfl).get 2
        have m3 := (K0.out.at 0 rfl).get 3
        have m4 := (K0.out.at 0 rfl).get 4
        have m5 := (K0.out.at 0 rfl).get 5
        simp at m0 m1 m2 m3 m4 m5
        go_wp2_with fail
        refine (CC.out _).mono ?_
        rintro e w1 ⟨rfl, b1⟩
        have K1 := Lib.hid (K0.out.below b1)
        clear b1 K0 m0 m1 m2 m3 m4 m5
        have m0 := (K1.out.at 0 rfl).get 0
        have m1 := (K1.out.at 0 rfl).get 1
        have m2 := (K1.out.at 0 rfl).get 2
        have m3 := (K1.out.at 0 rfl).get 3
        have m4 := (K1.out.at 0 rfl).get 4
        have m5 := (K1.out.at 0 rfl).get 5
        simp at m0 m1 m2 m3 m4 m5
        have v0 := (K1.out.at 1 rfl).get 0
        have v1 := (K1.out.at 1 rfl).get 1
        have v2 := (K1.out.at 1 rfl).get 2
        have v3 := (K1.out.at 1 rfl).get 3
        simp at v0 v1 v2 v3
        go_wp2_with fail
        refine (CL.out _).mono ?_
        rintro e w2 ⟨rfl, b2⟩
        have K2 := Lib.hid ((K1.out.below b2).new 26 [.int .u64 (q0 : Nat), .int .u64 (q1 : Nat), .int .u64 (now : Nat), .bool true])
        clear b2 K1 m0 m1 m2 m3 m4 m5 v0 v1 v2 v3
        go_upto_region 4 with fail
        generalize w2.heap.size = g2 at *
        generalize w2.alloc (.cells #[.int .u64 (q0 : Nat), .int .u64 (q1 : Nat), .int .u64 (now : Nat), .bool true] 26) = W2 at *
        have m0 := (K2.out.at 0 rfl).get 0
        have m1 := (K2.out.at 0 rfl).get 1
        have m2 := (K2.out.at 0 rfl).get 2
        have m3 := (K2.out.at 0 rfl).get 3
        have m4 := (K2.out.at 0 rfl).get 4
        have m5 := (K2.out.at 0 rfl).get 5
        simp at m0 m1 m2 m3 m4 m5
        have v0 := (K2.out.at 3 rfl).get 0
        have v1 := (K2.out.at 3 rfl).get 1
        have v2 := (K2.out.at 3 rfl).get 2
        have v3 := (K2.out.at 3 rfl).get 3
        simp at v0 v1 v2 v3
        go_wp2_with fail
        refine (CK.out _).mono ?_
        rintro e w3 ⟨rfl, rfl⟩
        go_wp2_with fail
        refine (C1.out _).mono ?_
        rintro e w4 ⟨rfl, b4⟩
        have K3 := Lib.hid (K2.out.below b4)
        clear b4 K2 m0 m1 m2 m3 m4 m5 v0 v1 v2 v3
        have v0 := (K3.out.at 3 rfl).get 0
        have v1 := (K3.out.at 3 rfl).get 1
        have v2 := (K3.out.at 3 rfl).get 2
        have v3 := (K3.out.at 3 rfl).get 3
        simp at v0 v1 v2 v3
        go_wp2_with fail
        refine (C0.out _).mono ?_
        rintro e w5 ⟨rfl, b5⟩
        have K4 := Lib.hid (K3.out.below b5)
        clear b5 K3 v0 v1 v2 v3
        have v0 := (K4.out.at 3 rfl).get 0
        have v1 := (K4.out.at 3 rfl).get 1
        have v2 := (K4.out.at 3 rfl).get 2
        have v3 := (K4.out.at 3 rfl).get 3
        simp at v0 v1 v2 v3
        have r0 := (K4.out.at 2 rfl).get 0
        have f0 := (K4.out.at 2 rfl).frozen 0
        have r1 := (K4.out.at 2 rfl).get 1
        have f1 := (K4.out.at 2 rfl).frozen 1
        have r2 := (K4.out.at 2 rfl).get 2
        have f2 := (K4.out.at 2 rfl).frozen 2
        have r3 := (K4.out.at 2 rfl).get 3
        have f3 := (K4.out.at 2 rfl).frozen 3
        simp at r0 r1 r2 r3
        have KE := Lib.hid (K4.out.store 2 rfl [.int .u64 (q0 : Nat), .int .u64 (q1 : Nat), .int .u64 (now : Nat), .bool true] rfl)
        have y0 : ((((w5.setCell ⟨w.heap.size + 2, 0, none⟩ (.int .u64 (q0 : Nat))).setCell ⟨w.heap.size + 2, 1, none⟩ (.int .u64 (q1 : Nat))).setCell ⟨w.heap.size + 2, 2, none⟩ (.int .u64 (now : Nat))).setCell ⟨w.heap.size + 2, 3, none⟩ (.bool true)).cell? ⟨w.heap.size + 2, 0, none⟩ = some (.int .u64 (q0 : Nat)) := (KE.out.at 2 rfl).get 0
        have y1 : ((((w5.setCell ⟨w.heap.size + 2, 0, none⟩ (.int .u64 (q0 : Nat))).setCell ⟨w.heap.size + 2, 1, none⟩ (.int .u64 (q1 : Nat))).setCell ⟨w.heap.size + 2, 2, none⟩ (.int .u64 (now : Nat))).setCell ⟨w.heap.size + 2, 3, none⟩ (.bool true)).cell? ⟨w.heap.size + 2, 1, none⟩ = some (.int .u64 (q1 : Nat)) := (KE.out.at 2 rfl).get 1
        have y2 : ((((w5.setCell ⟨w.heap.size + 2, 0, none⟩ (.int .u64 (q0 : Nat))).setCell ⟨w.heap.size + 2, 1, none⟩ (.int .u64 (q1 : Nat))).setCell ⟨w.heap.size + 2, 2, none⟩ (.int .u64 (now : Nat))).setCell ⟨w.heap.size + 2, 3, none⟩ (.bool true)).cell? ⟨w.heap.size + 2, 2, none⟩ = some (.int .u64 (now : Nat)) := (KE.out.at 2 rfl).get 2
        have y3 : ((((w5.setCell ⟨w.heap.size + 2, 0, none⟩ (.int .u64 (q0 : Nat))).setCell ⟨w.heap.size + 2, 1, none⟩ (.int .u64 (q1 : Nat))).setCell ⟨w.heap.size + 2, 2, none⟩ (.int .u64 (now : Nat))).setCell ⟨w.heap.size + 2, 3, none⟩ (.bool true)).cell? ⟨w.heap.size + 2, 3, none⟩ = some (.bool true) := (KE.out.at 2 rfl).get 3
        go_wp2_with fail
        exact bodyPost_ret (v := .tuple #[.agg #[.int .u64 (q0 : Nat), .int .u64 (q1 : Nat), .int .u64 (now : Nat), .bool true], .int .i64 2]) (by simp [results, Try.results9, go_sem, y0, y1, y2, y3]) rfl ⟨rfl, KE.out.bel⟩
      | true =>
        cases b0 with
        | false =>
          rw [dbTake_low hb1.symm hb0.symm] at hr1
          dsimp only at hr1
          rw [← hs1] at hr1
          injection hr1 with h1 h2
          subst h1 h2
          clear hb1 hb0 hs1 hs0
          show Calls Try.prog 9 #[.agg #[.int .i64 k, .bool a, .int .u64 (r : Nat), .int .u64 (p : Nat), .int .u64 (b : Nat), .int .u64 (x : Nat)], .agg #[.int .u64 (o : Nat), .int .u64 (t0 : Nat), .int .u64 (l : Nat), .bool sn], .int .u64 t, .int .i64 size, .int .i64 pre] w fun e w' => e = .returned (.tuple #[.agg #[.int .u64 (q0 : Nat), .int .u64 (s1 : Nat), .int .u64 (now : Nat), .bool true], .int .i64 1]) ∧ Below w.heap.size w w'
          go_enter Try.func9, Try.ntmps9
          have K0 := Lib.hid (KV.three w 24 26 26 [.int .i64 k, .bool a, .int .u64 (r : Nat), .int .u64 (p : Nat), .int .u64 (b : Nat), .int .u64 (x : Nat)] [.int .u64 (o : Nat), .int .u64 (t0 : Nat), .int .u64 (l : Nat), .bool sn] [.int .u64 0, .int .u64 0, .int .u64 0, .bool false])
          have m0 := (K0.out.at 0 rfl).get 0
          have m1 := (K0.out.at 0 rfl).get 1
          have m2 := (K0.out.at 0 rfl).get 2
          have m3 := (K0.out.at 0 rfl).get 3
          have m4 := (K0.out.at 0 rfl).get 4
          have m5 := (K0.out.at 0 rfl).get 5
          simp at m0 m1 m2 m3 m4 m5
          go_wp2_with fail
          refine (CC.out _).mono ?_
          rintro e w1 ⟨rfl, b1⟩
          have K1 := Lib.hid (K0.out.below b1)
          clear b1 K0 m0 m1 m2 m3 m4 m5
          have m0 := (K1.out.at 0 rfl).get 0
          have m1 := (K1.out.at 0 rfl).get 1
          have m2 := (K1.out.at 0 rfl).get 2
          have m3 := (K1.out.at 0 rfl).get 3
          have m4 := (K1.out.at 0 rfl).get 4
          have m5 := (K1.out.at 0 rfl).get 5
          simp at m0 m1 m2 m3 m4 m5
          have v0 := (K1.out.at 1 rfl).get 0
          have v1 := (K1.out.at 1 rfl).get 1
          have v2 := (K1.out.at 1 rfl).get 2
          have v3 := (K1.out.at 1 rfl).get 3
          simp at v0 v1 v2 v3
          go_wp2_with fail
          refine (CL.out _).mono ?_
          rintro e w2 ⟨rfl, b2⟩
          have K2 := Lib.hid ((K1.out.below b2).new 26 [.int .u64 (q0 : Nat), .int .u64 (q1 : Nat), .int .u64 (now : Nat), .bool true])
          clear b2 K1 m0 m1 m2 m3 m4 m5 v0 v1 v2 v3
          go_upto_region 4 with fail
          generalize w2.heap.size = g2 at *
          generalize w2.alloc (.cells #[.int .u64 (q0 : Nat), .int .u64 (q1 : Nat), .int .u64 (now : Nat), .bool true] 26) = W2 at *
          have m0 := (K2.out.at 0 rfl).get 0
          have m1 := (K2.out.at 0 rfl).get 1
          have m2 := (K2.out.at 0 rfl).get 2
          have m3 := (K2.out.at 0 rfl).get 3
          have m4 := (K2.out.at 0 rfl).get 4
          have m5 := (K2.out.at 0 rfl).get 5
          simp at m0 m1 m2 m3 m4 m5
          have v0 := (K2.out.at 3 rfl).get 0
          have v1 := (K2.out.at 3 rfl).get 1
          have v2 := (K2.out.at 3 rfl).get 2
          have v3 := (K2.out.at 3 rfl).get 3
          simp at v0 v1 v2 v3
          go_wp2_with fail
          refine (CK.out _).mono ?_
          rintro e w3 ⟨rfl, rfl⟩
          go_wp2_with fail
          refine (C1.out _).mono ?_
          rintro e w4 ⟨rfl, b4⟩
          have K3 := Lib.hid (K2.out.below b4)
          clear b4 K2 m0 m1 m2 m3 m4 m5 v0 v1 v2 v3
          have v0 := (K3.out.at 3 rfl).get 0
          have v1 := (K3.out.at 3 rfl).get 1
          have v2 := (K3.out.at 3 rfl).get 2
          have v3 := (K3.out.at 3 rfl).get 3
          simp at v0 v1 v2 v3
          go_wp2_with fail
          refine (C0.out _).mono ?_
          rintro e w5 ⟨rfl, b5⟩
          have K4 := Lib.hid (K3.out.below b5)
          clear b5 K3 v0 v1 v2 v3
          have f1 := (K4.out.at 3 rfl).frozen 1
          have v1 := (K4.out.at 3 rfl).get 1
          simp at v1
          have K5 := Lib.hid (K4.out.put 3 rfl 1 (.int .u64 (s1 : Nat)))
          go_upto_region 10 with fail
          clear f1 v1 K4
          generalize w5.setCell ⟨g2, 1, none⟩ (.int .u64 (s1 : Nat)) = W5 at *
          have v0 := (K5.out.at 3 rfl).get 0
          have v1 := (K5.out.at 3 rfl).get 1
          have v2 := (K5.out.at 3 rfl).get 2
          have v3 := (K5.out.at 3 rfl).get 3
          simp at v0 v1 v2 v3
          have r0 := (K5.out.at 2 rfl).get 0
          have f0 := (K5.out.at 2 rfl).frozen 0
          have r1 := (K5.out.at 2 rfl).get 1
          have f1 := (K5.out.at 2 rfl).frozen 1
          have r2 := (K5.out.at 2 rfl).get 2
          have f2 := (K5.out.at 2 rfl).frozen 2
          have r3 := (K5.out.at 2 rfl).get 3
          have f3 := (K5.out.at 2 rfl).frozen 3
          simp at r0 r1 r2 r3
          have KE := Lib.hid (K5.out.store 2 rfl [.int .u64 (q0 : Nat), .int .u64 (s1 : Nat), .int .u64 (now : Nat), .bool true] rfl)
          have y0 : ((((W5.setCell ⟨w.heap.size + 2, 0, none⟩ (.int .u64 (q0 : Nat))).setCell ⟨w.heap.size + 2, 1, none⟩ (.int .u64 (s1 : Nat))).setCell ⟨w.heap.size + 2, 2, none⟩ (.int .u64 (now : Nat))).setCell ⟨w.heap.size + 2, 3, none⟩ (.bool true)).cell? ⟨w.heap.size + 2, 0, none⟩ = some (.int .u64 (q0 : Nat)) := (KE.out.at 2 rfl).get 0
          have y1 : ((((W5.setCell ⟨w.heap.size + 2, 0, none⟩ (.int .u64 (q0 : Nat))).setCell ⟨w.heap.size + 2, 1, none⟩ (.int .u64 (s1 : Nat))).setCell ⟨w.heap.size + 2, 2, none⟩ (.int .u64 (now : Nat))).setCell ⟨w.heap.size + 2, 3, none⟩ (.bool true)).cell? ⟨w.heap.size + 2, 1, none⟩ = some (.int .u64 (s1 : Nat)) := (KE.out.at 2 rfl).get 1
          have y2 : ((((W5.setCell ⟨w.heap.size + 2, 0, none⟩ (.int .u64 (q0 : Nat))).setCell ⟨w.heap.size + 2, 1, none⟩ (.int .u64 (s1 : Nat))).setCell ⟨w.heap.size + 2, 2, none⟩ (.int .u64 (now : Nat))).setCell ⟨w.heap.size + 2, 3, none⟩ (.bool true)).cell? ⟨w.heap.size + 2, 2, none⟩ = some (.int .u64 (now : Nat)) := (KE.out.at 2 rfl).get 2
          have y3 : ((((W5.setCell ⟨w.heap.size + 2, 0, none⟩ (.int .u64 (q0 : Nat))).setCell ⟨w.heap.size + 2, 1, none⟩ (.int .u64 (s1 : Nat))).setCell ⟨w.heap.size + 2, 2, none⟩ (.int .u64 (now : Nat))).setCell ⟨w.heap.size + 2, 3, none⟩ (.bool true)).cell? ⟨w.heap.size + 2, 3, none⟩ = some (.bool true) := (KE.out.at 2 rfl).get 3
          go_wp2_with fail
          exact bodyPost_ret (v := .tuple #[.agg #[.int .u64 (q0 : Nat), .int .u64 (s1 : Nat), .int .u64 (now : Nat), .bool true], .int .i64 1]) (by simp [results, Try.results9, go_sem, y0, y1, y2, y3]) rfl ⟨rfl, KE.out.bel⟩
        | true =>
          rw [dbTake_green hb1.symm hb0.symm] at hr1
          dsimp only at hr1
          rw [← hs1, ← hs0] at hr1
          injection hr1 with h1 h2
          subst h1 h2
          clear hb1 hb0 hs1 hs0
          show Calls Try.prog 9 #[.agg #[.int .i64 k, .bool a, .int .u64 (r : Nat), .int .u64 (p : Nat), .int .u64 (b : Nat), .int .u64 (x : Nat)], .agg #[.int .u64 (o : Nat), .int .u64 (t0 : Nat), .int .u64 (l : Nat), .bool sn], .int .u64 t, .int .i64 size, .int .i64 pre] w fun e w' => e = .returned (.tuple #[.agg #[.int .u64 (s0 : Nat), .int .u64 (s1 : Nat), .int .u64 (now : Nat), .bool true], .int .i64 0]) ∧ Below w.heap.size w w'
          go_enter Try.func9, Try.ntmps9
          have K0 := Lib.hid (KV.three w 24 26 26 [.int .i64 k, .bool a, .int .u64 (r : Nat), .int .u64 (p : Nat), .int .u64 (b : Nat), .int .u64 (x : Nat)] [.int .u64 (o : Nat), .int .u64 (t0 : Nat), .int .u64 (l : Nat), .bool sn] [.int .u64 0, .int .u64 0, .int .u64 0, .bool false])
          have m0 := (K0.out.at 0 rfl).get 0
          have m1 := (K0.out.at 0 rfl).get 1
          have m2 := (K0.out.at 0 rfl).get 2
          have m3 := (K0.out.at 0 rfl).get 3
          have m4 := (K0.out.at 0 rfl).get 4
          have m5 := (K0.out.at 0 rfl).get 5
          simp at m0 m1 m2 m3 m4 m5
          go_wp2_with fail
          refine (CC.out _).mono ?_
          rintro e w1 ⟨rfl, b1⟩
          have K1 := Lib.hid (K0.out.below b1)
          clear b1 K0 m0 m1 m2 m3 m4 m5
          have m0 := (K1.out.at 0 rfl).get 0
          have m1 := (K1.out.at 0 rfl).get 1
          have m2 := (K1.out.at 0 rfl).get 2
          have m3 := (K1.out.at 0 rfl).get 3
          have m4 := (K1.out.at 0 rfl).get 4
          have m5 := (K1.out.at 0 rfl).get 5
          simp at m0 m1 m2 m3 m4 m5
          have v0 := (K1.out.at 1 rfl).get 0
          have v1 := (K1.out.at 1 rfl).get 1
          have v2 := (K1.out.at 1 rfl).get 2
          have v3 := (K1.out.at 1 rfl).get 3
          simp at v0 v1 v2 v3
          go_wp2_with fail
          refine (CL.out _).mono ?_
          rintro e w2 ⟨rfl, b2⟩
          have K2 := Lib.hid ((K1.out.below b2).new 26 [.int .u64 (q0 : Nat), .int .u64 (q1 : Nat), .int .u64 (now : Nat), .bool true])
          clear b2 K1 m0 m1 m2 m3 m4 m5 v0 v1 v2 v3
          go_upto_region 4 with fail
          generalize w2.heap.size = g2 at *
          generalize w2.alloc (.cells #[.int .u64 (q0 : Nat), .int .u64 (q1 : Nat), .int .u64 (now : Nat), .bool true] 26) = W2 at *
          have m0 := (K2.out.at 0 rfl).get 0
          have m1 := (K2.out.at 0 rfl).get 1
          have m2 := (K2.out.at 0 rfl).get 2
          have m3 := (K2.out.at 0 rfl).get 3
          have m4 := (K2.out.at 0 rfl).get 4
          have m5 := (K2.out.at 0 rfl).get 5
          simp at m0 m1 m2 m3 m4 m5
          have v0 := (K2.out.at 3 rfl).get 0
          have v1 := (K2.out.at 3 rfl).get 1
          have v2 := (K2.out.at 3 rfl).get 2
          have v3 := (K2.out.at 3 rfl).get 3
          simp at v0 v1 v2 v3
          go_wp2_with fail
          refine (CK.out _).mono ?_
          rintro e w3 ⟨rfl, rfl⟩
          go_wp2_with fail
          refine (C1.out _).mono ?_
          rintro e w4 ⟨rfl, b4⟩
          have K3 := Lib.hid (K2.out.below b4)
          clear b4 K2 m0 m1 m2 m3 m4 m5 v0 v1 v2 v3
          have v0 := (K3.out.at 3 rfl).get 0
          have v1 := (K3.out.at 3 rfl).get 1
          have v2 := (K3.out.at 3 rfl).get 2
          have v3 := (K3.out.at 3 rfl).get 3
          simp at v0 v1 v2 v3
          go_wp2_with fail
          refine (C0.out _).mono ?_
          rintro e w5 ⟨rfl, b5⟩
          have K4 := Lib.hid (K3.out.below b5)
          clear b5 K3 v0 v1 v2 v3
          have f1 := (K4.out.at 3 rfl).frozen 1
          have v1 := (K4.out.at 3 rfl).get 1
          simp at v1
          have K5 := Lib.hid (K4.out.put 3 rfl 1 (.int .u64 (s1 : Nat)))
          go_upto_region 10 with fail
          clear f1 v1 K4
          generalize w5.setCell ⟨g2, 1, none⟩ (.int .u64 (s1 : Nat)) = W5 at *
          have f1 := (K5.out.at 3 rfl).frozen 0
          have v1 := (K5.out.at 3 rfl).get 0
          simp at v1
          have K6 := Lib.hid (K5.out.put 3 rfl 0 (.int .u64 (s0 : Nat)))
          go_upto_region 13 with fail
          clear f1 v1 K5
          generalize W5.setCell ⟨g2, 0, none⟩ (.int .u64 (s0 : Nat)) = W6 at *
          have v0 := (K6.out.at 3 rfl).get 0
          have v1 := (K6.out.at 3 rfl).get 1
          have v2 := (K6.out.at 3 rfl).get 2
          have v3 := (K6.out.at 3 rfl).get 3
          simp at v0 v1 v2 v3
          have r0 := (K6.out.at 2 rfl).get 0
          have f0 := (K6.out.at 2 rfl).frozen 0
          have r1 := (K6.out.at 2 rfl).get 1
          have f1 := (K6.out.at 2 rfl).frozen 1
          have r2 := (K6.out.at 2 rfl).get 2
          have f2 := (K6.out.at 2 rfl).frozen 2
          have r3 := (K6.out.at 2 rfl).get 3
          have f3 := (K6.out.at 2 rfl).frozen 3
          simp at r0 r1 r2 r3
          have KE := Lib.hid (K6.out.store 2 rfl [.int .u64 (s0 : Nat), .int .u64 (s1 : Nat), .int .u64 (now : Nat), .bool true] rfl)
          have y0 : ((((W6.setCell ⟨w.heap.size + 2, 0, none⟩ (.int .u64 (s0 : Nat))).setCell ⟨w.heap.size + 2, 1, none⟩ (.int .u64 (s1 : Nat))).setCell ⟨w.heap.size + 2, 2, none⟩ (.int .u64 (now : Nat))).setCell ⟨w.heap.size + 2, 3, none⟩ (.bool true)).cell? ⟨w.heap.size + 2, 0, none⟩ = some (.int .u64 (s0 : Nat)) := (KE.out.at 2 rfl).get 0
          have y1 : ((((W6.setCell ⟨w.heap.size + 2, 0, none⟩ (.int .u64 (s0 : Nat))).setCell ⟨w.heap.size + 2, 1, none⟩ (.int .u64 (s1 : Nat))).setCell ⟨w.heap.size + 2, 2, none⟩ (.int .u64 (now : Nat))).setCell ⟨w.heap.size + 2, 3, none⟩ (.bool true)).cell? ⟨w.heap.size + 2, 1, none⟩ = some (.int .u64 (s1 : Nat)) := (KE.out.at 2 rfl).get 1
          have y2 : ((((W6.setCell ⟨w.heap.size + 2, 0, none⟩ (.int .u64 (s0 : Nat))).setCell ⟨w.heap.size + 2, 1, none⟩ (.int .u64 (s1 : Nat))).setCell ⟨w.heap.size + 2, 2, none⟩ (.int .u64 (now : Nat))).setCell ⟨w.heap.size + 2, 3, none⟩ (.bool true)).cell? ⟨w.heap.size + 2, 2, none⟩ = some (.int .u64 (now : Nat)) := (KE.out.at 2 rfl).get 2
          have y3 : ((((W6.setCell ⟨w.heap.size + 2, 0, none⟩ (.int .u64 (s0 : Nat))).setCell ⟨w.heap.size + 2, 1, none⟩ (.int .u64 (s1 : Nat))).setCell ⟨w.heap.size + 2, 2, none⟩ (.int .u64 (now : Nat))).setCell ⟨w.heap.size + 2, 3, none⟩ (.bool true)).cell? ⟨w.heap.size + 2, 3, none⟩ = some (.bool true) := (KE.out.at 2 rfl).get 3
          go_wp2_with fail
          exact bodyPost_ret (v := .tuple #[.agg #[.int .u64 (s0 : Nat), .int .u64 (s1 : Nat), .int .u64 (now : Nat), .bool true], .int .i64 0]) (by simp [results, Try.results9, go_sem, y0, y1, y2, y3]) rfl ⟨rfl, KE.out.bel⟩
    · cases b1 with
      | false =>
        rw [dbTake_empty hb1.symm] at hr1
        injection hr1 with h1 h2
        subst h1 h2
        clear hb1 hb0 hs1 hs0
        show Calls Try.prog 9 #[.agg #[.int .i64 k, .bool a, .int .u64 (r : Nat), .int .u64 (p : Nat), .int .u64 (b : Nat), .int .u64 (x : Nat)], .agg #[.int .u64 (o : Nat), .int .u64 (t0 : Nat), .int .u64 (l : Nat), .bool sn], .int .u64 t, .int .i64 size, .int .i64 pre] w fun e w' => e = .returned (.tuple #[.agg #[.int .u64 (q0 : Nat), .int .u64 (q1 : Nat), .int .u64 (now : Nat), .bool true], .int .i64 2]) ∧ Below w.heap.size w w'
        go_enter Try.func9, Try.ntmps9
        have K0 := Lib.hid (KV.three w 24 26 26 [.int .i64 k, .bool a, .int .u64 (r : Nat), .int .u64 (p : Nat), .int .u64 (b : Nat), .int .u64 (x : Nat)] [.int .u64 (o : Nat), .int .u64 (t0 : Nat), .int .u64 (l : Nat), .bool sn] [.int .u64 0, .int .u64 0, .int .u64 0, .bool false])
        have m0 := (K0.out.at 0 rfl).get 0
        have m1 := (K0.out.at 0 rfl).get 1
        have m2 := (K0.out.at 0 rfl).get 2
        have m3 := (K0.out.at 0 rfl).get 3
        have m4 := (K0.out.at 0 rfl).get 4
        have m5 := (K0.out.at 0 rfl).get 5
        simp at m0 m1 m2 m3 m4 m5
        go_wp2_with fail
        refine (CC.out _).mono ?_
        rintro e w1 ⟨rfl, b1⟩
        have K1 := Lib.hid (K0.out.below b1)
        clear b1 K0 m0 m1 m2 m3 m4 m5
        have m0 := (K1.out.at 0 rfl).get 0
        have m1 := (K1.out.at 0 rfl).get 1
        have m2 := (K1.out.at 0 rfl).get 2
        have m3 := (K1.out.at 0 rfl).get 3
        have m4 := (K1.out.at 0 rfl).get 4
        have m5 := (K1.out.at 0 rfl).get 5
        simp at m0 m1 m2 m3 m4 m5
        have v0 := (K1.out.at 1 rfl).get 0
        have v1 := (K1.out.at 1 rfl).get 1
        have v2 := (K1.out.at 1 rfl).get 2
        have v3 := (K1.out.at 1 rfl).get 3
        simp at v0 v1 v2 v3
        go_wp2_with fail
        refine (CL.out _).mono ?_
        rintro e w2 ⟨rfl, b2⟩
        have K2 := Lib.hid ((K1.out.below b2).new 26 [.int .u64 (q0 : Nat), .int .u64 (q1 : Nat), .int .u64 (now : Nat), .bool true])
        clear b2 K1 m0 m1 m2 m3 m4 m5 v0 v1 v2 v3
        go_upto_region 4 with fail
        generalize w2.heap.size = g2 at *
        generalize w2.alloc (.cells #[.int .u64 (q0 : Nat), .int .u64 (q1 : Nat), .int .u64 (now : Nat), .bool true] 26) = W2 at *
        have m0 := (K2.out.at 0 rfl).get 0
        have m1 := (K2.out.at 0 rfl).get 1
        have m2 := (K2.out.at 0 rfl).get 2
        have m3 := (K2.out.at 0 rfl).get 3
        have m4 := (K2.out.at 0 rfl).get 4
        have m5 := (K2.out.at 0 rfl).get 5
        simp at m0 m1 m2 m3 m4 m5
        have v0 := (K2.out.at 3 rfl).get 0
        have v1 := (K2.out.at 3 rfl).get 1
        have v2 := (K2.out.at 3 rfl).get 2
        have v3 := (K2.out.at 3 rfl).get 3
        simp at v0 v1 v2 v3
        go_wp2_with fail
        refine (CK.out _).mono ?_
        rintro e w3 ⟨rfl, rfl⟩
        go_wp2_with fail
        refine (C1.out _).mono ?_
        rintro e w4 ⟨rfl, b4⟩
        have K3 := Lib.hid (K2.out.below b4)
        clear b4 K2 m0 m1 m2 m3 m4 m5 v0 v1 v2 v3
        have v0 := (K3.out.at 3 rfl).get 0
        have v1 := (K3.out.at 3 rfl).get 1
        have v2 := (K3.out.at 3 rfl).get 2
        have v3 := (K3.out.at 3 rfl).get 3
        simp at v0 v1 v2 v3
        go_wp2_with fail
        refine (C0.out _).mono ?_
        rintro e w5 ⟨rfl, b5⟩
        have K4 := Lib.hid (K3.out.below b5)
        clear b5 K3 v0 v1 v2 v3
        have v0 := (K4.out.at 3 rfl).get 0
        have v1 := (K4.out.at 3 rfl).get 1
        have v2 := (K4.out.at 3 rfl).get 2
        have v3 := (K4.out.at 3 rfl).get 3
        simp at v0 v1 v2 v3
        have r0 := (K4.out.at 2 rfl).get 0
        have f0 := (K4.out.at 2 rfl).frozen 0
        have r1 := (K4.out.at 2 rfl).get 1
        have f1 := (K4.out.at 2 rfl).frozen 1
        have r2 := (K4.out.at 2 rfl).get 2
        have f2 := (K4.out.at 2 rfl).frozen 2
        have r3 := (K4.out.at 2 rfl).get 3
        have f3 := (K4.out.at 2 rfl).frozen 3
        simp at r0 r1 r2 r3
        have KE := Lib.hid (K4.out.store 2 rfl [.int .u64 (q0 : Nat), .int .u64 (q1 : Nat), .int .u64 (now : Nat), .bool true] rfl)
        have y0 : ((((w5.setCell ⟨w.heap.size + 2, 0, none⟩ (.int .u64 (q0 : Nat))).setCell ⟨w.heap.size + 2, 1, none⟩ (.int .u64 (q1 : Nat))).setCell ⟨w.heap.size + 2, 2, none⟩ (.int .u64 (now : Nat))).setCell ⟨w.heap.size + 2, 3, none⟩ (.bool true)).cell? ⟨w.heap.size + 2, 0, none⟩ = some (.int .u64 (q0 : Nat)) := (KE.out.at 2 rfl).get 0
        have y1 : ((((w5.setCell ⟨w.heap.size + 2, 0, none⟩ (.int .u64 (q0 : Nat))).setCell ⟨w.heap.size + 2, 1, none⟩ (.int .u64 (q1 : Nat))).setCell ⟨w.heap.size + 2, 2, none⟩ (.int .u64 (now : Nat))).setCell ⟨w.heap.size + 2, 3, none⟩ (.bool true)).cell? ⟨w.heap.size + 2, 1, none⟩ = some (.int .u64 (q1 : Nat)) := (KE.out.at 2 rfl).get 1
        have y2 : ((((w5.setCell ⟨w.heap.size + 2, 0, none⟩ (.int .u64 (q0 : Nat))).setCell ⟨w.heap.size + 2, 1, none⟩ (.int .u64 (q1 : Nat))).setCell ⟨w.heap.size + 2, 2, none⟩ (.int .u64 (now : Nat))).setCell ⟨w.heap.size + 2, 3, none⟩ (.bool true)).cell? ⟨w.heap.size + 2, 2, none⟩ = some (.int .u64 (now : Nat)) := (KE.out.at 2 rfl).get 2
        have y3 : ((((w5.setCell ⟨w.heap.size + 2, 0, none⟩ (.int .u64 (q0 : Nat))).setCell ⟨w.heap.size + 2, 1, none⟩ (.int .u64 (q1 : Nat))).setCell ⟨w.heap.size + 2, 2, none⟩ (.int .u64 (now : Nat))).setCell ⟨w.heap.size + 2, 3, none⟩ (.bool true)).cell? ⟨w.heap.size + 2, 3, none⟩ = some (.bool true) := (KE.out.at 2 rfl).get 3
        go_wp2_with fail
        exact bodyPost_ret (v := .tuple #[.agg #[.int .u64 (q0 : Nat), .int .u64 (q1 : Nat), .int .u64 (now : Nat), .bool true], .int .i64 2]) (by simp [results, Try.results9, go_sem, y0, y1, y2, y3]) rfl ⟨rfl, KE.out.bel⟩
      | true =>
        rw [dbTake_pale hb1.symm] at hr1
        dsimp only at hr1
        rw [← hs1] at hr1
        injection hr1 with h1 h2
        subst h1 h2
        clear hb1 hb0 hs1 hs0
        show Calls Try.prog 9 #[.agg #[.int .i64 k, .bool a, .int .u64 (r : Nat), .int .u64 (p : Nat), .int .u64 (b : Nat), .int .u64 (x : Nat)], .agg #[.int .u64 (o : Nat), .int .u64 (t0 : Nat), .int .u64 (l : Nat), .bool sn], .int .u64 t, .int .i64 size, .int .i64 pre] w fun e w' => e = .returned (.tuple #[.agg #[.int .u64 (q0 : Nat), .int .u64 (s1 : Nat), .int .u64 (now : Nat), .bool true], .int .i64 1]) ∧ Below w.heap.size w w'
        go_enter Try.func9, Try.ntmps9
        have K0 := Lib.hid (KV.three w 24 26 26 [.int .i64 k, .bool a, .int .u64 (r : Nat), .int .u64 (p : Nat), .int .u64 (b : Nat), .int .u64 (x : Nat)] [.int .u64 (o : Nat), .int .u64 (t0 : Nat), .int .u64 (l : Nat), .bool sn] [.int .u64 0, .int .u64 0, .int .u64 0, .bool false])
        have m0 := (K0.out.at 0 rfl).get 0
        have m1 := (K0.out.at 0 rfl).get 1
        have m2 := (K0.out.at 0 rfl).get 2
        have m3 := (K0.out.at 0 rfl).get 3
        have m4 := (K0.out.at 0 rfl).get 4
        have m5 := (K0.out.at 0 rfl).get 5
        simp at m0 m1 m2 m3 m4 m5
        go_wp2_with fail
        refine (CC.out _).mono ?_
        rintro e w1 ⟨rfl, b1⟩
        have K1 := Lib.hid (K0.out.below b1)
        clear b1 K0 m0 m1 m2 m3 m4 m5
        have m0 := (K1.out.at 0 rfl).get 0
        have m1 := (K1.out.at 0 rfl).get 1
        have m2 := (K1.out.at 0 rfl).get 2
        have m3 := (K1.out.at 0 rfl).get 3
        have m4 := (K1.out.at 0 rfl).get 4
        have m5 := (K1.out.at 0 rfl).get 5
        simp at m0 m1 m2 m3 m4 m5
        have v0 := (K1.out.at 1 rfl).get 0
        have v1 := (K1.out.at 1 rfl).get 1
        have v2 := (K1.out.at 1 rfl).get 2
        have v3 := (K1.out.at 1 rfl).get 3
        simp at v0 v1 v2 v3
        go_wp2_with fail
        refine (CL.out _).mono ?_
        rintro e w2 ⟨rfl, b2⟩
        have K2 := Lib.hid ((K1.out.below b2).new 26 [.int .u64 (q0 : Nat), .int .u64 (q1 : Nat), .int .u64 (now : Nat), .bool true])
        clear b2 K1 m0 m1 m2 m3 m4 m5 v0 v1 v2 v3
        go_upto_region 4 with fail
        generalize w2.heap.size = g2 at *
        generalize w2.alloc (.cells #[.int .u64 (q0 : Nat), .int .u64 (q1 : Nat), .int .u64 (now : Nat), .bool true] 26) = W2 at *
        have m0 := (K2.out.at 0 rfl).get 0
        have m1 := (K2.out.at 0 rfl).get 1
        have m2 := (K2.out.at 0 rfl).get 2
        have m3 := (K2.out.at 0 rfl).get 3
        have m4 := (K2.out.at 0 rfl).get 4
        have m5 := (K2.out.at 0 rfl).get 5
        simp at m0 m1 m2 m3 m4 m5
        have v0 := (K2.out.at 3 rfl).get 0
        have v1 := (K2.out.at 3 rfl).get 1
        have v2 := (K2.out.at 3 rfl).get 2
        have v3 := (K2.out.at 3 rfl).get 3
        simp at v0 v1 v2 v3
        go_wp2_with fail
        refine (CK.out _).mono ?_
        rintro e w3 ⟨rfl, rfl⟩
        go_wp2_with fail
        refine (C1.out _).mono ?_
        rintro e w4 ⟨rfl, b4⟩
        have K3 := Lib.hid (K2.out.below b4)
        clear b4 K2 m0 m1 m2 m3 m4 m5 v0 v1 v2 v3
        have v0 := (K3.out.at 3 rfl).get 0
        have v1 := (K3.out.at 3 rfl).get 1
        have v2 := (K3.out.at 3 rfl).get 2
        have v3 := (K3.out.at 3 rfl).get 3
        simp at v0 v1 v2 v3
        go_wp2_with fail
        refine (C0.out _).mono ?_
        rintro e w5 ⟨rfl, b5⟩
        have K4 := Lib.hid (K3.out.below b5)
        clear b5 K3 v0 v1 v2 v3
        have f1 := (K4.out.at 3 rfl).frozen 1
        have v1 := (K4.out.at 3 rfl).get 1
        simp at v1
        have K5 := Lib.hid (K4.out.put 3 rfl 1 (.int .u64 (s1 : Nat)))
        go_upto_region 10 with fail
        clear f1 v1 K4
        generalize w5.setCell ⟨g2, 1, none⟩ (.int .u64 (s1 : Nat)) = W5 at *
        have v0 := (K5.out.at 3 rfl).get 0
        have v1 := (K5.out.at 3 rfl).get 1
        have v2 := (K5.out.at 3 rfl).get 2
        have v3 := (K5.out.at 3 rfl).get 3
        simp at v0 v1 v2 v3
        have r0 := (K5.out.at 2 rfl).get 0
        have f0 := (K5.out.at 2 rfl).frozen 0
        have r1 := (K5.out.at 2 rfl).get 1
        have f1 := (K5.out.at 2 rfl).frozen 1
        have r2 := (K5.out.at 2 rfl).get 2
        have f2 := (K5.out.at 2 rfl).frozen 2
        have r3 := (K5.out.at 2 rfl).get 3
        have f3 := (K5.out.at 2 rfl).frozen 3
        simp at r0 r1 r2 r3
        have KE := Lib.hid (K5.out.store 2 rfl [.int .u64 (q0 : Nat), .int .u64 (s1 : Nat), .int .u64 (now : Nat), .bool true] rfl)
        have y0 : ((((W5.setCell ⟨w.heap.size + 2, 0, none⟩ (.int .u64 (q0 : Nat))).setCell ⟨w.heap.size + 2, 1, none⟩ (.int .u64 (s1 : Nat))).setCell ⟨w.heap.size + 2, 2, none⟩ (.int .u64 (now : Nat))).setCell ⟨w.heap.size + 2, 3, none⟩ (.bool true)).cell? ⟨w.heap.size + 2, 0, none⟩ = some (.int .u64 (q0 : Nat)) := (KE.out.at 2 rfl).get 0
        have y1 : ((((W5.setCell ⟨w.heap.size + 2, 0, none⟩ (.int .u64 (q0 : Nat))).setCell ⟨w.heap.size + 2, 1, none⟩ (.int .u64 (s1 : Nat))).setCell ⟨w.heap.size + 2, 2, none⟩ (.int .u64 (now : Nat))).setCell ⟨w.heap.size + 2, 3, none⟩ (.bool true)).cell? ⟨w.heap.size + 2, 1, none⟩ = some (.int .u64 (s1 : Nat)) := (KE.out.at 2 rfl).get 1
        have y2 : ((((W5.setCell ⟨w.heap.size + 2, 0, none⟩ (.int .u64 (q0 : Nat))).setCell ⟨w.heap.size + 2, 1, none⟩ (.int .u64 (s1 : Nat))).setCell ⟨w.heap.size + 2, 2, none⟩ (.int .u64 (now : Nat))).setCell ⟨w.heap.size + 2, 3, none⟩ (.bool true)).cell? ⟨w.heap.size + 2, 2, none⟩ = some (.int .u64 (now : Nat)) := (KE.out.at 2 rfl).get 2
        have y3 : ((((W5.setCell ⟨w.heap.size + 2, 0, none⟩ (.int .u64 (q0 : Nat))).setCell ⟨w.heap.size + 2, 1, none⟩ (.int .u64 (s1 : Nat))).setCell ⟨w.heap.size + 2, 2, none⟩ (.int .u64 (now : Nat))).setCell ⟨w.heap.size + 2, 3, none⟩ (.bool true)).cell? ⟨w.heap.size + 2, 3, none⟩ = some (.bool true) := (KE.out.at 2 rfl).get 3
        go_wp2_with fail
        exact bodyPost_ret (v := .tuple #[.agg #[.int .u64 (q0 : Nat), .int .u64 (s1 : Nat), .int .u64 (now : Nat), .bool true], .int .i64 1]) (by simp [results, Try.results9, go_sem, y0, y1, y2, y3]) rfl ⟨rfl, KE.out.bel⟩
end Go.Proofs.Ytdeehkhdmohalaa