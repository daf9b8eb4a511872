/-
  Contracts of double's New and Step.
-/
import Derived.Test.YtdeehkhdmohalaaDb2
namespace Go.Proofs.Ytdeehkhdmohalaa
open Go.RowKit
set_option linter.unusedVariables false
attribute [local go_sem ↓] Go.wp_at_zero Go.wp_at_succ

/-- A meter's level at first. -/
def dbNew (m : Mt) : Lv := if dbCheck m = 0 then ⟨1000000000 * m.burst, 1000000000 * m.extra, 0, false⟩ else ⟨0, 0, 0, false⟩
set_option maxRecDepth 10000 in
set_option maxHeartbeats 1600000 in
theorem dbnew_any (m : Mt) (c : Int) (n : Lv) (w : World) (hc : Hid (c = dbCheck m)) (hn : Hid (n = dbNew m)) :
    Calls Try.prog 6 #[.agg (mtC m).toArray] w fun e w' => e = .returned (.tuple #[.agg (lvC n).toArray, .int .i64 c]) ∧ Below w.heap.size w w' := by
  have CC := Lib.hid (fun w => dbcheck_any m c w hc)
  have hn1 := hn.out
  unfold dbNew at hn1
  rw [← hc.out] at hn1
  by_cases h0 : c = 0
  · rw [if_pos h0] at hn1
    obtain ⟨R, hR⟩ : ∃ R, R = 1000000000 * m.burst := ⟨_, rfl⟩
    obtain ⟨X, hX⟩ : ∃ X, X = 1000000000 * m.extra := ⟨_, rfl⟩
    have hok := dbCheck_ok (hc.out.symm.trans h0)
    have hb := hok.2.2.2.1.2
    have hx := hok.2.2.2.2.2
    rw [← hR, ← hX] at hn1
    subst hn1
    obtain ⟨k, a, r, p, b, x⟩ := m
    dsimp only at hb hx hR hX
    have CP := Lib.hid (fun w => pails_any k a r p b x 0 0 0 false R X w (by omega) (by omega) hR hX)
    subst h0
    clear hc hn hok hb hx hR hX
    show Calls Try.prog 6 #[.agg #[.int .i64 k, .bool a, .int .u64 (r : Nat), .int .u64 (p : Nat), .int .u64 (b : Nat), .int .u64 (x : Nat)]] w fun e w' => e = .returned (.tuple #[.agg #[.int .u64 (R : Nat), .int .u64 (X : Nat), .int .u64 0, .bool false], .int .i64 0]) ∧ Below w.heap.size w w'
    simp only [mtC] at CC
    go_enter Try.func6, Try.ntmps6
    have K0 := Lib.hid ((KV.one w 24 [.int .i64 k, .bool a, .int .u64 (r : Nat), .int .u64 (p : Nat), .int .u64 (b : Nat), .int .u64 (x : Nat)]).new 26 [.int .u64 0, .int .u64 0, .int .u64 0, .bool false])
    simp only [World.size_alloc] at K0
    have m0 := (K0.out.at 0 rfl).get 0
    have m1 := (K0.out.at 0 rfl).get 1
    have m2 := (K0.out.at 0 rfl).get 2
    have m3 := (K0.out.at 0 rfl).get 3
    have m4 := (K0.out.at 0 rfl).get 4
    have m5 := (K0.out.at 0 rfl).get 5
    simp at m0 m1 m2 m3 m4 m5
    go_wp2_with fail
    refine (CC.out _).mono ?_
    rintro e w1 ⟨rfl, b1⟩
    have K1 := Lib.hid (K0.out.below b1)
    clear b1 K0 m0 m1 m2 m3 m4 m5
    have m0 := (K1.out.at 0 rfl).get 0
    have m1 := (K1.out.at 0 rfl).get 1
    have m2 := (K1.out.at 0 rfl).get 2
    have m3 := (K1.out.at 0 rfl).get 3
    have m4 := (K1.out.at 0 rfl).get 4
    have m5 := (K1.out.at 0 rfl).get 5
    simp at m0 m1 m2 m3 m4 m5
    go_wp2_with fail
    refine (CP.out _).mono ?_
    rintro e w2 ⟨rfl, b2⟩
    have K2 := Lib.hid ((K1.out.below b2).new 43 [.int .u64 0, .int .u64 (R : Nat), .int .u64 (r : Nat), .int .u64 0, .int .u64 (X : Nat), .int .u64 (p : Nat)])
    clear b2 K1 m0 m1 m2 m3 m4 m5
    go_upto_region 5 with fail
    generalize w2.heap.size = g2 at *
    generalize w2.alloc (.cells #[.int .u64 0, .int .u64 (R : Nat), .int .u64 (r : Nat), .int .u64 0, .int .u64 (X : Nat), .int .u64 (p : Nat)] 43) = W at *
    have m0 := (K2.out.at 2 rfl).get 0
    have m1 := (K2.out.at 2 rfl).get 1
    have m2 := (K2.out.at 2 rfl).get 2
    have m3 := (K2.out.at 2 rfl).get 3
    have m4 := (K2.out.at 2 rfl).get 4
    have m5 := (K2.out.at 2 rfl).get 5
    simp at m0 m1 m2 m3 m4 m5
    have r0 := (K2.out.at 1 rfl).get 0
    have f0 := (K2.out.at 1 rfl).frozen 0
    have r1 := (K2.out.at 1 rfl).get 1
    have f1 := (K2.out.at 1 rfl).frozen 1
    have r2 := (K2.out.at 1 rfl).get 2
    have f2 := (K2.out.at 1 rfl).frozen 2
    have r3 := (K2.out.at 1 rfl).get 3
    have f3 := (K2.out.at 1 rfl).frozen 3
    simp at r0 r1 r2 r3
    have KE := Lib.hid (K2.out.store 1 rfl [.int .u64 (R : Nat), .int .u64 (X : Nat), .int .u64 0, .bool false] rfl)
    have y0 : ((((W.setCell ⟨w.heap.size + 1, 0, none⟩ (.int .u64 (R : Nat))).setCell ⟨w.heap.size + 1, 1, none⟩ (.int .u64 (X : Nat))).setCell ⟨w.heap.size + 1, 2, none⟩ (.int .u64 0)).setCell ⟨w.heap.size + 1, 3, none⟩ (.bool false)).cell? ⟨w.heap.size + 1, 0, none⟩ = some (.int .u64 (R : Nat)) := (KE.out.at 1 rfl).get 0
    have y1 : ((((W.setCell ⟨w.heap.size + 1, 0, none⟩ (.int .u64 (R : Nat))).setCell ⟨w.heap.size + 1, 1, none⟩ (.int .u64 (X : Nat))).setCell ⟨w.heap.size + 1, 2, none⟩ (.int .u64 0)).setCell ⟨w.heap.size + 1, 3, none⟩ (.bool false)).cell? ⟨w.heap.size + 1, 1, none⟩ = some (.int .u64 (X : Nat)) := (KE.out.at 1 rfl).get 1
    have y2 : ((((W.setCell ⟨w.heap.size + 1, 0, none⟩ (.int .u64 (R : Nat))).setCell ⟨w.heap.size + 1, 1, none⟩ (.int .u64 (X : Nat))).setCell ⟨w.heap.size + 1, 2, none⟩ (.int .u64 0)).setCell ⟨w.heap.size + 1, 3, none⟩ (.bool false)).cell? ⟨w.heap.size + 1, 2, none⟩ = some (.int .u64 0) := (KE.out.at 1 rfl).get 2
    have y3 : ((((W.setCell ⟨w.heap.size + 1, 0, none⟩ (.int .u64 (R : Nat))).setCell ⟨w.heap.size + 1, 1, none⟩ (.int .u64 (X : Nat))).setCell ⟨w.heap.size + 1, 2, none⟩ (.int .u64 0)).setCell ⟨w.heap.size + 1, 3, none⟩ (.bool false)).cell? ⟨w.heap.size + 1, 3, none⟩ = some (.bool false) := (KE.out.at 1 rfl).get 3
    go_wp2_with fail
    exact bodyPost_ret (v := .tuple #[.agg #[.int .u64 (R : Nat), .int .u64 (X : Nat), .int .u64 0, .bool false], .int .i64 0]) (by simp [results, Try.results6, go_sem, y0, y1, y2, y3]) rfl ⟨rfl, KE.out.bel⟩
  · rw [if_neg h0] at hn1
    subst hn1
    have h1 : (c != 0) = true := by rw [bne_iff_ne]; exact h0
    obtain ⟨k, a, r, p, b, x⟩ := m
    clear hc hn h0
    show Calls Try.prog 6 #[.agg #[.int .i64 k, .bool a, .int .u64 (r : Nat), .int .u64 (p : Nat), .int .u64 (b : Nat), .int .u64 (x : Nat)]] w fun e w' => e = .returned (.tuple #[.agg #[.int .u64 0, .int .u64 0, .int .u64 0, .bool false], .int .i64 c]) ∧ Below w.heap.size w w'
    simp only [mtC] at CC
    go_enter Try.func6, Try.ntmps6
    have K0 := Lib.hid ((KV.one w 24 [.int .i64 k, .bool a, .int .u64 (r : Nat), .int .u64 (p : Nat), .int .u64 (b : Nat), .int .u64 (x : Nat)]).new 26 [.int .u64 0, .int .u64 0, .int .u64 0, .bool false])
    simp only [World.size_alloc] at K0
    have m0 := (K0.out.at 0 rfl).get 0
    have m1 := (K0.out.at 0 rfl).get 1
    have m2 := (K0.out.at 0 rfl).get 2
    have m3 := (K0.out.at 0 rfl).get 3
    have m4 := (K0.out.at 0 rfl).get 4
    have m5 := (K0.out.at 0 rfl).get 5
    simp at m0 m1 m2 m3 m4 m5
    go_wp2_with fail
    refine (CC.out _).mono ?_
    rintro e w1 ⟨rfl, b1⟩
    have K1 := Lib.hid (K0.out.below b1)
    clear b1 K0 m0 m1 m2 m3 m4 m5
    have r0 := (K1.out.at 1 rfl).get 0
    have f0 := (K1.out.at 1 rfl).frozen 0
    have r1 := (K1.out.at 1 rfl).get 1
    have f1 := (K1.out.at 1 rfl).frozen 1
    have r2 := (K1.out.at 1 rfl).get 2
    have f2 := (K1.out.at 1 rfl).frozen 2
    have r3 := (K1.out.at 1 rfl).get 3
    have f3 := (K1.out.at 1 rfl).frozen 3
    simp at r0 r1 r2 r3
    have KE := Lib.hid (K1.out.store 1 rfl [.int .u64 0, .int .u64 0, .int .u64 0, .bool false] rfl)
    have y0 : ((((w1.setCell ⟨w.heap.size + 1, 0, none⟩ (.int .u64 0)).setCell ⟨w.heap.size + 1, 1, none⟩ (.int .u64 0)).setCell ⟨w.heap.size + 1, 2, none⟩ (.int .u64 0)).setCell ⟨w.heap.size + 1, 3, none⟩ (.bool false)).cell? ⟨w.heap.size + 1, 0, none⟩ = some (.int .u64 0) := (KE.out.at 1 rfl).get 0
    have y1 : ((((w1.setCell ⟨w.heap.size + 1, 0, none⟩ (.int .u64 0)).setCell ⟨w.heap.size + 1, 1, none⟩ (.int .u64 0)).setCell ⟨w.heap.size + 1, 2, none⟩ (.int .u64 0)).setCell ⟨w.heap.size + 1, 3, none⟩ (.bool false)).cell? ⟨w.heap.size + 1, 1, none⟩ = some (.int .u64 0) := (KE.out.at 1 rfl).get 1
    have y2 : ((((w1.setCell ⟨w.heap.size + 1, 0, none⟩ (.int .u64 0)).setCell ⟨w.heap.size + 1, 1, none⟩ (.int .u64 0)).setCell ⟨w.heap.size + 1, 2, none⟩ (.int .u64 0)).setCell ⟨w.heap.size + 1, 3, none⟩ (.bool false)).cell? ⟨w.heap.size + 1, 2, none⟩ = some (.int .u64 0) := (KE.out.at 1 rfl).get 2
    have y3 : ((((w1.setCell ⟨w.heap.size + 1, 0, none⟩ (.int .u64 0)).setCell ⟨w.heap.size + 1, 1, none⟩ (.int .u64 0)).setCell ⟨w.heap.size + 1, 2, none⟩ (.int .u64 0)).setCell ⟨w.heap.size + 1, 3, none⟩ (.bool false)).cell? ⟨w.heap.size + 1, 3, none⟩ = some (.bool false) := (KE.out.at 1 rfl).get 3
    go_wp2_with fail
    exact bodyPost_ret (v := .tuple #[.agg #[.int .u64 0, .int .u64 0, .int .u64 0, .bool false], .int .i64 c]) (by simp [results, Try.results6, go_sem, y0, y1, y2, y3]) rfl ⟨rfl, KE.out.bel⟩
theorem bk_level2 {l r G q : Nat} (hl : l ≤ 18446744073709551615) (hr : r ≤ 18446744073709551615) (hq : q = l + bkPut l r G) : q ≤ 18446744073709551615 := by rw [hq]; exact bk_level hl hr
set_option maxRecDepth 10000 in
set_option maxHeartbeats 3200000 in
theorem dbstep_any (m : Mt) (s : Lv) (t : Nat) (size pre : Int) (n : Lv) (c : Int) (w : World) (hm : MtOk m) (hs : LvOk s) (ht : t ≤ 18446744073709551615) (hz : size ≤ 9223372036854775807) (hr : Hid (dbStep m s t size pre = (n, c))) :
    Calls Try.prog 8 #[.agg (mtC m).toArray, .agg (lvC s).toArray, .int .u64 t, .int .i64 size, .int .i64 pre] w fun e w' => e = .returned (.tuple #[.agg (lvC n).toArray, .int .i64 c]) ∧ Below w.heap.size w w' := by
  obtain ⟨z, hzc⟩ : ∃ z, z = dbCheck m := ⟨_, rfl⟩
  have CC := Lib.hid (fun w => dbcheck_any m z w hzc)
  have hr1 := hr.out
  clear hr
  unfold dbStep at hr1
  rw [← hzc] at hr1
  by_cases hbad : z ≠ 0 ∨ size < 0
  · rw [if_pos hbad] at hr1
    injection hr1 with h1 h2
    subst h1 h2
    obtain ⟨k, a, r, p, b, x⟩ := m
    obtain ⟨o, t0, l, sn⟩ := s
    simp only [mtC] at CC
    show Calls Try.prog 8 #[.agg #[.int .i64 k, .bool a, .int .u64 (r : Nat), .int .u64 (p : Nat), .int .u64 (b : Nat), .int .u64 (x : Nat)], .agg #[.int .u64 (o : Nat), .int .u64 (t0 : Nat), .int .u64 (l : Nat), .bool sn], .int .u64 t, .int .i64 size, .int .i64 pre] w fun e w' => e = .returned (.tuple #[.agg #[.int .u64 (o : Nat), .int .u64 (t0 : Nat), .int .u64 (l : Nat), .bool sn], .int .i64 2]) ∧ Below w.heap.size w w'
    clear hm hs ht hz hzc
    by_cases hz0 : z = 0
    · have hneg : size < 0 := hbad.resolve_left (fun h => h hz0)
      subst hz0
      clear hbad
      go_enter Try.func8, Try.ntmps8
      have K0 := Lib.hid (KV.three w 24 26 26 [.int .i64 k, .bool a, .int .u64 (r : Nat), .int .u64 (p : Nat), .int .u64 (b : Nat), .int .u64 (x : Nat)] [.int .u64 (o : Nat), .int .u64 (t0 : Nat), .int .u64 (l : Nat), .bool sn] [.int .u64 0, .int .u64 0, .int .u64 0, .bool false])
      have m0 := (K0.out.at 0 rfl).get 0
      have m1 := (K0.out.at 0 rfl).get 1
      have m2 := (K0.out.at 0 rfl).get 2
      have m3 := (K0.out.at 0 rfl).get 3
      have m4 := (K0.out.at 0 rfl).get 4
      have m5 := (K0.out.at 0 rfl).get 5
      simp at m0 m1 m2 m3 m4 m5
      go_wp2_with fail
      refine (CC.out _).mono ?_
      rintro e w1 ⟨rfl, b1⟩
      have K1 := Lib.hid (K0.out.below b1)
      clear b1 K0 m0 m1 m2 m3 m4 m5
      have v0 := (K1.out.at 1 rfl).get 0
      have v1 := (K1.out.at 1 rfl).get 1
      have v2 := (K1.out.at 1 rfl).get 2
      have v3 := (K1.out.at 1 rfl).get 3
      simp at v0 v1 v2 v3
      have r0 := (K1.out.at 2 rfl).get 0
      have f0 := (K1.out.at 2 rfl).frozen 0
      have r1 := (K1.out.at 2 rfl).get 1
      have f1 := (K1.out.at 2 rfl).frozen 1
      have r2 := (K1.out.at 2 rfl).get 2
      have f2 := (K1.out.at 2 rfl).frozen 2
      have r3 := (K1.out.at 2 rfl).get 3
      have f3 := (K1.out.at 2 rfl).frozen 3
      simp at r0 r1 r2 r3
      have KE := Lib.hid (K1.out.store 2 rfl [.int .u64 (o : Nat), .int .u64 (t0 : Nat), .int .u64 (l : Nat), .bool sn] rfl)
      have y0 : ((((w1.setCell ⟨w.heap.size + 2, 0, none⟩ (.int .u64 (o : Nat))).setCell ⟨w.heap.size + 2, 1, none⟩ (.int .u64 (t0 : Nat))).setCell ⟨w.heap.size + 2, 2, none⟩ (.int .u64 (l : Nat))).setCell ⟨w.heap.size + 2, 3, none⟩ (.bool sn)).cell? ⟨w.heap.size + 2, 0, none⟩ = some (.int .u64 (o : Nat)) := (KE.out.at 2 rfl).get 0
      have y1 : ((((w1.setCell ⟨w.heap.size + 2, 0, none⟩ (.int .u64 (o : Nat))).setCell ⟨w.heap.size + 2, 1, none⟩ (.int .u64 (t0 : Nat))).setCell ⟨w.heap.size + 2, 2, none⟩ (.int .u64 (l : Nat))).setCell ⟨w.heap.size + 2, 3, none⟩ (.bool sn)).cell? ⟨w.heap.size + 2, 1, none⟩ = some (.int .u64 (t0 : Nat)) := (KE.out.at 2 rfl).get 1
      have y2 : ((((w1.setCell ⟨w.heap.size + 2, 0, none⟩ (.int .u64 (o : Nat))).setCell ⟨w.heap.size + 2, 1, none⟩ (.int .u64 (t0 : Nat))).setCell ⟨w.heap.size + 2, 2, none⟩ (.int .u64 (l : Nat))).setCell ⟨w.heap.size + 2, 3, none⟩ (.bool sn)).cell? ⟨w.heap.size + 2, 2, none⟩ = some (.int .u64 (l : Nat)) := (KE.out.at 2 rfl).get 2
      have y3 : ((((w1.setCell ⟨w.heap.size + 2, 0, none⟩ (.int .u64 (o : Nat))).setCell ⟨w.heap.size + 2, 1, none⟩ (.int .u64 (t0 : Nat))).setCell ⟨w.heap.size + 2, 2, none⟩ (.int .u64 (l : Nat))).setCell ⟨w.heap.size + 2, 3, none⟩ (.bool sn)).cell? ⟨w.heap.size + 2, 3, none⟩ = some (.bool sn) := (KE.out.at 2 rfl).get 3
      go_wp2_with fail
      exact bodyPost_ret (v := .tuple #[.agg #[.int .u64 (o : Nat), .int .u64 (t0 : Nat), .int .u64 (l : Nat), .bool sn], .int .i64 2]) (by simp [results, Try.results8, go_sem, y0, y1, y2, y3]) rfl ⟨rfl, KE.out.bel⟩
    · have h1 : (z != 0) = true := by rw [bne_iff_ne]; exact hz0
      clear hbad hz0
      go_enter Try.func8, Try.ntmps8
      have K0 := Lib.hid (KV.three w 24 26 26 [.int .i64 k, .bool a, .int .u64 (r : Nat), .int .u64 (p : Nat), .int .u64 (b : Nat), .int .u64 (x : Nat)] [.int .u64 (o : Nat), .int .u64 (t0 : Nat), .int .u64 (l : Nat), .bool sn] [.int .u64 0, .int .u64 0, .int .u64 0, .bool false])
      have m0 := (K0.out.at 0 rfl).get 0
      have m1 := (K0.out.at 0 rfl).get 1
      have m2 := (K0.out.at 0 rfl).get 2
      have m3 := (K0.out.at 0 rfl).get 3
      have m4 := (K0.out.at 0 rfl).get 4
      have m5 := (K0.out.at 0 rfl).get 5
      simp at m0 m1 m2 m3 m4 m5
      go_wp2_with fail
      refine (CC.out _).mono ?_
      rintro e w1 ⟨rfl, b1⟩
      have K1 := Lib.hid (K0.out.below b1)
      clear b1 K0 m0 m1 m2 m3 m4 m5
      have v0 := (K1.out.at 1 rfl).get 0
      have v1 := (K1.out.at 1 rfl).get 1
      have v2 := (K1.out.at 1 rfl).get 2
      have v3 := (K1.out.at 1 rfl).get 3
      simp at v0 v1 v2 v3
      have r0 := (K1.out.at 2 rfl).get 0
      have f0 := (K1.out.at 2 rfl).frozen 0
      have r1 := (K1.out.at 2 rfl).get 1
      have f1 := (K1.out.at 2 rfl).frozen 1
      have r2 := (K1.out.at 2 rfl).get 2
      have f2 := (K1.out.at 2 rfl).frozen 2
      have r3 := (K1.out.at 2 rfl).get 3
      have f3 := (K1.out.at 2 rfl).frozen 3
      simp at r0 r1 r2 r3
      have KE := Lib.hid (K1.out.store 2 rfl [.int .u64 (o : Nat), .int .u64 (t0 : Nat), .int .u64 (l : Nat), .bool sn] rfl)
      have y0 : ((((w1.setCell ⟨w.heap.size + 2, 0, none⟩ (.int .u64 (o : Nat))).setCell ⟨w.heap.size + 2, 1, none⟩ (.int .u64 (t0 : Nat))).setCell ⟨w.heap.size + 2, 2, none⟩ (.int .u64 (l : Nat))).setCell ⟨w.heap.size + 2, 3, none⟩ (.bool sn)).cell? ⟨w.heap.size + 2, 0, none⟩ = some (.int .u64 (o : Nat)) := (KE.out.at 2 rfl).get 0
      have y1 : ((((w1.setCell ⟨w.heap.size + 2, 0, none⟩ (.int .u64 (o : Nat))).setCell ⟨w.heap.size + 2, 1, none⟩ (.int .u64 (t0 : Nat))).setCell ⟨w.heap.size + 2, 2, none⟩ (.int .u64 (l : Nat))).setCell ⟨w.heap.size + 2, 3, none⟩ (.bool sn)).cell? ⟨w.heap.size + 2, 1, none⟩ = some (.int .u64 (t0 : Nat)) := (KE.out.at 2 rfl).get 1
      have y2 : ((((w1.setCell ⟨w.heap.size + 2, 0, none⟩ (.int .u64 (o : Nat))).setCell ⟨w.heap.size + 2, 1, none⟩ (.int .u64 (t0 : Nat))).setCell ⟨w.heap.size + 2, 2, none⟩ (.int .u64 (l : Nat))).setCell ⟨w.heap.size + 2, 3, none⟩ (.bool sn)).cell? ⟨w.heap.size + 2, 2, none⟩ = some (.int .u64 (l : Nat)) := (KE.out.at 2 rfl).get 2
      have y3 : ((((w1.setCell ⟨w.heap.size + 2, 0, none⟩ (.int .u64 (o : Nat))).setCell ⟨w.heap.size + 2, 1, none⟩ (.int .u64 (t0 : Nat))).setCell ⟨w.heap.size + 2, 2, none⟩ (.int .u64 (l : Nat))).setCell ⟨w.heap.size + 2, 3, none⟩ (.bool sn)).cell? ⟨w.heap.size + 2, 3, none⟩ = some (.bool sn) := (KE.out.at 2 rfl).get 3
      go_wp2_with fail
      exact bodyPost_ret (v := .tuple #[.agg #[.int .u64 (o : Nat), .int .u64 (t0 : Nat), .int .u64 (l : Nat), .bool sn], .int .i64 2]) (by simp [results, Try.results8, go_sem, y0, y1, y2, y3]) rfl ⟨rfl, KE.out.bel⟩
  · rw [if_neg hbad] at hr1
    have hz0 : z = 0 := Classical.not_not.1 fun h => hbad (.inl h)
    have hpos : ¬ size < 0 := fun h => hbad (.inr h)
    have hok := dbCheck_ok (hzc.symm.trans hz0)
    subst hz0
    obtain ⟨now, hnow⟩ : ∃ v, v = rtNow s.last s.seen t := ⟨_, rfl⟩
    obtain ⟨el, hel⟩ : ∃ v, v = rtGap s.last s.seen t := ⟨_, rfl⟩
    obtain ⟨R, hR⟩ : ∃ v, v = 1000000000 * m.burst := ⟨_, rfl⟩
    obtain ⟨X, hX⟩ : ∃ v, v = 1000000000 * m.extra := ⟨_, rfl⟩
    obtain ⟨q0, hq0⟩ : ∃ v, v = s.one + bkPut s.one R (m.rate * el) := ⟨_, rfl⟩
    obtain ⟨q1, hq1⟩ : ∃ v, v = s.two + bkPut s.two X (m.peak * el) := ⟨_, rfl⟩
    have hL : dbLater m s t = ⟨q0, q1, now, true⟩ := by
      unfold dbLater
      rw [← hel, ← hnow, ← hR, ← hX, ← hq0, ← hq1]
    rw [hL, sgCol_aware] at hr1
    obtain ⟨n0, n1, c', hk⟩ := dbTake_keeps ⟨q0, q1, now, true⟩ size (sgCol true (if m.aware = true then pre else 0))
    rw [hk] at hr1
    injection hr1 with h1 h2
    subst h1 h2
    dsimp only at hk
    obtain ⟨k, a, r, p, b, x⟩ := m
    obtain ⟨o, t0, l, sn⟩ := s
    dsimp only at hnow hel hR hX hq0 hq1 hk hok
    have hb := hok.2.2.2.1.2
    have hx := hok.2.2.2.2.2
    have hR64 : R ≤ 18446744073709551615 := by omega
    have hX64 : X ≤ 18446744073709551615 := by omega
    have CP := Lib.hid (fun w => pails_any k a r p b x (o : Nat) (t0 : Nat) (l : Nat) sn R X w (by omega) (by omega) hR hX)
    have hN : Hid (o ≤ 18446744073709551615 ∧ R ≤ 18446744073709551615 ∧ r ≤ 18446744073709551615 ∧ t0 ≤ 18446744073709551615 ∧ X ≤ 18446744073709551615 ∧ p ≤ 18446744073709551615 ∧ l ≤ 18446744073709551615 ∧ t ≤ 18446744073709551615 ∧ q0 ≤ 18446744073709551615 ∧ q1 ≤ 18446744073709551615 ∧ size ≤ 9223372036854775807) :=
      ⟨hs.one, hR64, hm.rate, hs.two, hX64, hm.peak, hs.last, ht, bk_level2 hs.one hR64 hq0, bk_level2 hs.two hX64 hq1, hz⟩
    simp only [mtC] at CC
    have hmf : ∀ (fn : Fn) (first cap : Array Value) (w : World), (Instr.makeFunc fn first cap).run Try.prog w = .ok (.func fn first cap) w := fun _ _ _ _ => rfl
    show Calls Try.prog 8 #[.agg #[.int .i64 k, .bool a, .int .u64 (r : Nat), .int .u64 (p : Nat), .int .u64 (b : Nat), .int .u64 (x : Nat)], .agg #[.int .u64 (o : Nat), .int .u64 (t0 : Nat), .int .u64 (l : Nat), .bool sn], .int .u64 t, .int .i64 size, .int .i64 pre] w fun e w' => e = .returned (.tuple #[.agg #[.int .u64 (n0 : Nat), .int .u64 (n1 : Nat), .int .u64 (now : Nat), .bool true], .int .i64 c']) ∧ Below w.heap.size w w'
    have HNOW : Hid (now = rtNow l sn t) := hnow
    have HEL : Hid (el = rtGap l sn t) := hel
    have HQ0 : Hid (q0 = o + bkPut o R (r * el)) := hq0
    have HQ1 : Hid (q1 = t0 + bkPut t0 X (p * el)) := hq1
    clear hbad hzc hm hs ht hz hok hb hx hR64 hX64 hR hX hL hnow hel hq0 hq1
    cases a with
    | false =>
      have hT := Lib.hid hk
      simp only [Bool.false_eq_true, if_false] at hT
      clear hk
      go_enter Try.func8, Try.ntmps8
      have K0 := Lib.hid (KV.three w 24 26 26 [.int .i64 k, .bool false, .int .u64 (r : Nat), .int .u64 (p : Nat), .int .u64 (b : Nat), .int .u64 (x : Nat)] [.int .u64 (o : Nat), .int .u64 (t0 : Nat), .int .u64 (l : Nat), .bool sn] [.int .u64 0, .int .u64 0, .int .u64 0, .bool false])
      have m0 := (K0.out.at 0 rfl).get 0
      have m1 := (K0.out.at 0 rfl).get 1
      have m2 := (K0.out.at 0 rfl).get 2
      have m3 := (K0.out.at 0 rfl).get 3
      have m4 := (K0.out.at 0 rfl).get 4
      have m5 := (K0.out.at 0 rfl).get 5
      simp at m0 m1 m2 m3 m4 m5
      go_wp2_with fail
      refine (CC.out _).mono ?_
      rintro e w1 ⟨rfl, b1⟩
      have K1 := Lib.hid (K0.out.below b1)
      clear b1 K0 m0 m1 m2 m3 m4 m5
      have m0 := (K1.out.at 0 rfl).get 0
      have m1 := (K1.out.at 0 rfl).get 1
      have m2 := (K1.out.at 0 rfl).get 2
      have m3 := (K1.out.at 0 rfl).get 3
      have m4 := (K1.out.at 0 rfl).get 4
      have m5 := (K1.out.at 0 rfl).get 5
      simp at m0 m1 m2 m3 m4 m5
      have v0 := (K1.out.at 1 rfl).get 0
      have v1 := (K1.out.at 1 rfl).get 1
      have v2 := (K1.out.at 1 rfl).get 2
      have v3 := (K1.out.at 1 rfl).get 3
      simp at v0 v1 v2 v3
      go_wp2_with fail
      refine (CP.out _).mono ?_
      rintro e w2 ⟨rfl, b2⟩
      have K2 := Lib.hid ((K1.out.below b2).new 43 [.int .u64 (o : Nat), .int .u64 (R : Nat), .int .u64 (r : Nat), .int .u64 (t0 : Nat), .int .u64 (X : Nat), .int .u64 (p : Nat)])
      clear b2 K1 m0 m1 m2 m3 m4 m5 v0 v1 v2 v3
      go_upto_region 6 with fail
      generalize w2.heap.size = g2 at *
      generalize w2.alloc (.cells #[.int .u64 (o : Nat), .int .u64 (R : Nat), .int .u64 (r : Nat), .int .u64 (t0 : Nat), .int .u64 (X : Nat), .int .u64 (p : Nat)] 43) = W2 at *
      have v0 := (K2.out.at 1 rfl).get 0
      have v1 := (K2.out.at 1 rfl).get 1
      have v2 := (K2.out.at 1 rfl).get 2
      have v3 := (K2.out.at 1 rfl).get 3
      simp at v0 v1 v2 v3
      have K3 := Lib.hid (K2.out.new 46 [.func (.func 16) #[.pointer (some ⟨g2, 0, none⟩)] #[], .func (.func 16) #[.pointer (some ⟨g2, 3, none⟩)] #[]])
      go_wp2_with fail
      refine (later_any w _ _ 3 4 g2 _ o R r t0 X p q0 q1 l t now el (o : Nat) (t0 : Nat) sn K3 rfl rfl (by decide) hN.out.1 hN.out.2.1 hN.out.2.2.1 hN.out.2.2.2.1 hN.out.2.2.2.2.1 hN.out.2.2.2.2.2.1 hN.out.2.2.2.2.2.2.1 hN.out.2.2.2.2.2.2.2.1 HNOW HEL HQ0 HQ1).mono ?_
      rintro e w3 ⟨rfl, k3⟩
      have K4 := Lib.hid k3
      clear k3 K3 K2 v0 v1 v2 v3
      go_wp2_with fail
      refine (take_any w _ _ 3 g2 q0 R r q1 X p now n0 n1 true size 0 c' K4 rfl hN.out.2.2.2.2.2.2.2.2.1 hN.out.2.2.2.2.2.2.2.2.2.1 hN.out.2.2.2.2.2.2.2.2.2.2 hT.out).mono ?_
      rintro e w4 ⟨rfl, k4⟩
      have K5 := Lib.hid k4
      clear k4 K4
      have m0 := (K5.out.at 3 rfl).get 0
      have m1 := (K5.out.at 3 rfl).get 1
      have m2 := (K5.out.at 3 rfl).get 2
      have m3 := (K5.out.at 3 rfl).get 3
      have m4 := (K5.out.at 3 rfl).get 4
      have m5 := (K5.out.at 3 rfl).get 5
      simp at m0 m1 m2 m3 m4 m5
      have r0 := (K5.out.at 2 rfl).get 0
      have f0 := (K5.out.at 2 rfl).frozen 0
      have r1 := (K5.out.at 2 rfl).get 1
      have f1 := (K5.out.at 2 rfl).frozen 1
      have r2 := (K5.out.at 2 rfl).get 2
      have f2 := (K5.out.at 2 rfl).frozen 2
      have r3 := (K5.out.at 2 rfl).get 3
      have f3 := (K5.out.at 2 rfl).frozen 3
      simp at r0 r1 r2 r3
      have KE := Lib.hid (K5.out.store 2 rfl [.int .u64 (n0 : Nat), .int .u64 (n1 : Nat), .int .u64 (now : Nat), .bool true] rfl)
      have y0 : ((((w4.setCell ⟨w.heap.size + 2, 0, none⟩ (.int .u64 (n0 : Nat))).setCell ⟨w.heap.size + 2, 1, none⟩ (.int .u64 (n1 : Nat))).setCell ⟨w.heap.size + 2, 2, none⟩ (.int .u64 (now : Nat))).setCell ⟨w.heap.size + 2, 3, none⟩ (.bool true)).cell? ⟨w.heap.size + 2, 0, none⟩ = some (.int .u64 (n0 : Nat)) := (KE.out.at 2 rfl).get 0
      have y1 : ((((w4.setCell ⟨w.heap.size + 2, 0, none⟩ (.int .u64 (n0 : Nat))).setCell ⟨w.heap.size + 2, 1, none⟩ (.int .u64 (n1 : Nat))).setCell ⟨w.heap.size + 2, 2, none⟩ (.int .u64 (now : Nat))).setCell ⟨w.heap.size + 2, 3, none⟩ (.bool true)).cell? ⟨w.heap.size + 2, 1, none⟩ = some (.int .u64 (n1 : Nat)) := (KE.out.at 2 rfl).get 1
      have y2 : ((((w4.setCell ⟨w.heap.size + 2, 0, none⟩ (.int .u64 (n0 : Nat))).setCell ⟨w.heap.size + 2, 1, none⟩ (.int .u64 (n1 : Nat))).setCell ⟨w.heap.size + 2, 2, none⟩ (.int .u64 (now : Nat))).setCell ⟨w.heap.size + 2, 3, none⟩ (.bool true)).cell? ⟨w.heap.size + 2, 2, none⟩ = some (.int .u64 (now : Nat)) := (KE.out.at 2 rfl).get 2
      have y3 : ((((w4.setCell ⟨w.heap.size + 2, 0, none⟩ (.int .u64 (n0 : Nat))).setCell ⟨w.heap.size + 2, 1, none⟩ (.int .u64 (n1 : Nat))).setCell ⟨w.heap.size + 2, 2, none⟩ (.int .u64 (now : Nat))).setCell ⟨w.heap.size + 2, 3, none⟩ (.bool true)).cell? ⟨w.heap.size + 2, 3, none⟩ = some (.bool true) := (KE.out.at 2 rfl).get 3
      go_wp2_with fail
      exact bodyPost_ret (v := .tuple #[.agg #[.int .u64 (n0 : Nat), .int .u64 (n1 : Nat), .int .u64 (now : Nat), .bool true], .int .i64 c']) (by simp [results, Try.results8, go_sem, y0, y1, y2, y3]) rfl ⟨rfl, KE.out.bel⟩
    | true =>
      have hT := Lib.hid hk
      simp only [if_true] at hT
      clear hk
      go_enter Try.func8, Try.ntmps8
      have K0 := Lib.hid (KV.three w 24 26 26 [.int .i64 k, .bool true, .int .u64 (r : Nat), .int .u64 (p : Nat), .int .u64 (b : Nat), .int .u64 (x : Nat)] [.int .u64 (o : Nat), .int .u64 (t0 : Nat), .int .u64 (l : Nat), .bool sn] [.int .u64 0, .int .u64 0, .int .u64 0, .bool false])
      have m0 := (K0.out.at 0 rfl).get 0
      have m1 := (K0.out.at 0 rfl).get 1
      have m2 := (K0.out.at 0 rfl).get 2
      have m3 := (K0.out.at 0 rfl).get 3
      have m4 := (K0.out.at 0 rfl).get 4
      have m5 := (K0.out.at 0 rfl).get 5
      simp at m0 m1 m2 m3 m4 m5
      go_wp2_with fail
      refine (CC.out _).mono ?_
      rintro e w1 ⟨rfl, b1⟩
      have K1 := Lib.hid (K0.out.below b1)
      clear b1 K0 m0 m1 m2 m3 m4 m5
      have m0 := (K1.out.at 0 rfl).get 0
      have m1 := (K1.out.at 0 rfl).get 1
      have m2 := (K1.out.at 0 rfl).get 2
      have m3 := (K1.out.at 0 rfl).get 3
      have m4 := (K1.out.at 0 rfl).get 4
      have m5 := (K1.out.at 0 rfl).get 5
      simp at m0 m1 m2 m3 m4 m5
      have v0 := (K1.out.at 1 rfl).get 0
      have v1 := (K1.out.at 1 rfl).get 1
      have v2 := (K1.out.at 1 rfl).get 2
      have v3 := (K1.out.at 1 rfl).get 3
      simp at v0 v1 v2 v3
      go_wp2_with fail
      refine (CP.out _).mono ?_
      rintro e w2 ⟨rfl, b2⟩
      have K2 := Lib.hid ((K1.out.below b2).new 43 [.int .u64 (o : Nat), .int .u64 (R : Nat), .int .u64 (r : Nat), .int .u64 (t0 : Nat), .int .u64 (X : Nat), .int .u64 (p : Nat)])
      clear b2 K1 m0 m1 m2 m3 m4 m5 v0 v1 v2 v3
      go_upto_region 6 with fail
      generalize w2.heap.size = g2 at *
      generalize w2.alloc (.cells #[.int .u64 (o : Nat), .int .u64 (R : Nat), .int .u64 (r : Nat), .int .u64 (t0 : Nat), .int .u64 (X : Nat), .int .u64 (p : Nat)] 43) = W2 at *
      have v0 := (K2.out.at 1 rfl).get 0
      have v1 := (K2.out.at 1 rfl).get 1
      have v2 := (K2.out.at 1 rfl).get 2
      have v3 := (K2.out.at 1 rfl).get 3
      simp at v0 v1 v2 v3
      have K3 := Lib.hid (K2.out.new 46 [.func (.func 16) #[.pointer (some ⟨g2, 0, none⟩)] #[], .func (.func 16) #[.pointer (some ⟨g2, 3, none⟩)] #[]])
      go_wp2_with fail
      refine (later_any w _ _ 3 4 g2 _ o R r t0 X p q0 q1 l t now el (o : Nat) (t0 : Nat) sn K3 rfl rfl (by decide) hN.out.1 hN.out.2.1 hN.out.2.2.1 hN.out.2.2.2.1 hN.out.2.2.2.2.1 hN.out.2.2.2.2.2.1 hN.out.2.2.2.2.2.2.1 hN.out.2.2.2.2.2.2.2.1 HNOW HEL HQ0 HQ1).mono ?_
      rintro e w3 ⟨rfl, k3⟩
      have K4 := Lib.hid k3
      clear k3 K3 K2 v0 v1 v2 v3
      go_wp2_with fail
      refine (take_any w _ _ 3 g2 q0 R r q1 X p now n0 n1 true size pre c' K4 rfl hN.out.2.2.2.2.2.2.2.2.1 hN.out.2.2.2.2.2.2.2.2.2.1 hN.out.2.2.2.2.2.2.2.2.2.2 hT.out).mono ?_
      rintro e w4 ⟨rfl, k4⟩
      have K5 := Lib.hid k4
      clear k4 K4
      have m0 := (K5.out.at 3 rfl).get 0
      have m1 := (K5.out.at 3 rfl).get 1
      have m2 := (K5.out.at 3 rfl).get 2
      have m3 := (K5.out.at 3 rfl).get 3
      have m4 := (K5.out.at 3 rfl).get 4
      have m5 := (K5.out.at 3 rfl).get 5
      simp at m0 m1 m2 m3 m4 m5
      have r0 := (K5.out.at 2 rfl).get 0
      have f0 := (K5.out.at 2 rfl).frozen 0
      have r1 := (K5.out.at 2 rfl).get 1
      have f1 := (K5.out.at 2 rfl).frozen 1
      have r2 := (K5.out.at 2 rfl).get 2
      have f2 := (K5.out.at 2 rfl).frozen 2
      have r3 := (K5.out.at 2 rfl).get 3
      have f3 := (K5.out.at 2 rfl).frozen 3
      simp at r0 r1 r2 r3
      have KE := Lib.hid (K5.out.store 2 rfl [.int .u64 (n0 : Nat), .int .u64 (n1 : Nat), .int .u64 (now : Nat), .bool true] rfl)
      have y0 : ((((w4.setCell ⟨w.heap.size + 2, 0, none⟩ (.int .u64 (n0 : Nat))).setCell ⟨w.heap.size + 2, 1, none⟩ (.int .u64 (n1 : Nat))).setCell ⟨w.heap.size + 2, 2, none⟩ (.int .u64 (now : Nat))).setCell ⟨w.heap.size + 2, 3, none⟩ (.bool true)).cell? ⟨w.heap.size + 2, 0, none⟩ = some (.int .u64 (n0 : Nat)) := (KE.out.at 2 rfl).get 0
      have y1 : ((((w4.setCell ⟨w.heap.size + 2, 0, none⟩ (.int .u64 (n0 : Nat))).setCell ⟨w.heap.size + 2, 1, none⟩ (.int .u64 (n1 : Nat))).setCell ⟨w.heap.size + 2, 2, none⟩ (.int .u64 (now : Nat))).setCell ⟨w.heap.size + 2, 3, none⟩ (.bool true)).cell? ⟨w.heap.size + 2, 1, none⟩ = some (.int .u64 (n1 : Nat)) := (KE.out.at 2 rfl).get 1
      have y2 : ((((w4.setCell ⟨w.heap.size + 2, 0, none⟩ (.int .u64 (n0 : Nat))).setCell ⟨w.heap.size + 2, 1, none⟩ (.int .u64 (n1 : Nat))).setCell ⟨w.heap.size + 2, 2, none⟩ (.int .u64 (now : Nat))).setCell ⟨w.heap.size + 2, 3, none⟩ (.bool true)).cell? ⟨w.heap.size + 2, 2, none⟩ = some (.int .u64 (now : Nat)) := (KE.out.at 2 rfl).get 2
      have y3 : ((((w4.setCell ⟨w.heap.size + 2, 0, none⟩ (.int .u64 (n0 : Nat))).setCell ⟨w.heap.size + 2, 1, none⟩ (.int .u64 (n1 : Nat))).setCell ⟨w.heap.size + 2, 2, none⟩ (.int .u64 (now : Nat))).setCell ⟨w.heap.size + 2, 3, none⟩ (.bool true)).cell? ⟨w.heap.size + 2, 3, none⟩ = some (.bool true) := (KE.out.at 2 rfl).get 3
      go_wp2_with fail
      exact bodyPost_ret (v := .tuple #[.agg #[.int .u64 (n0 : Nat), .int .u64 (n1 : Nat), .int .u64 (now : Nat), .bool true], .int .i64 c']) (by simp [results, Try.results8, go_sem, y0, y1, y2, y3]) rfl ⟨rfl, KE.out.bel⟩
end Go.Proofs.Ytdeehkhdmohalaa