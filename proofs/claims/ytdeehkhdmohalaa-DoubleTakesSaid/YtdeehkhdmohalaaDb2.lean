/-
  Contracts of double's pails, grow, take (of one pail and of both) and later.
-/
import Derived.Test.YtdeehkhdmohalaaDb1
import Derived.Test.YtdeehkhdmohalaaBk1
import Derived.Test.YtdeehkhdmohalaaRt1
namespace Go.Proofs.Ytdeehkhdmohalaa
open Go.RowKit
set_option linter.unusedVariables false
attribute [local go_sem ↓] Go.wp_at_zero Go.wp_at_succ

theorem typails : RowTy 43 6 := ⟨⟨_, Try.underlying43, rfl⟩, by kernel_rfl⟩
theorem idx2_first (x y : Int) (w : World) : (Instr.index 56 (.agg #[.int .u64 x, .int .u64 y]) (.int .i64 0)).run Try.prog w = .ok (.int .u64 x) w := by
  simp [Instr.index, run_underlying Try.underlying56, asIntOf, go_sem]
theorem idx2_second (x y : Int) (w : World) : (Instr.index 56 (.agg #[.int .u64 x, .int .u64 y]) (.int .i64 1)).run Try.prog w = .ok (.int .u64 y) w := by
  simp [Instr.index, run_underlying Try.underlying56, asIntOf, go_sem]
set_option maxRecDepth 10000 in
set_option maxHeartbeats 1600000 in
theorem pails_any (k : Int) (a : Bool) (r p b x : Nat) (o t l : Int) (sn : Bool) (R X : Nat) (w : World) (hb : (b : Int) ≤ 4294967296) (hx : (x : Int) ≤ 4294967296) (hR : Hid (R = 1000000000 * b)) (hX : Hid (X = 1000000000 * x)) :
    Calls Try.prog 14 #[.agg #[.int .i64 k, .bool a, .int .u64 (r : Nat), .int .u64 (p : Nat), .int .u64 (b : Nat), .int .u64 (x : Nat)], .agg #[.int .u64 o, .int .u64 t, .int .u64 l, .bool sn]] w fun e w' => e = .returned (.agg #[.int .u64 o, .int .u64 (R : Nat), .int .u64 (r : Nat), .int .u64 t, .int .u64 (X : Nat), .int .u64 (p : Nat)]) ∧ Below w.heap.size w w' := by
  have C1 := Lib.hid (fun w => bkfull_ok b R w hb hR)
  have C2 := Lib.hid (fun w => bkfull_ok x X w hx hX)
  have i1 := idx2_first (b : Int) (x : Int)
  have i2 := idx2_second (b : Int) (x : Int)
  clear hb hx hR hX
  go_enter Try.func14, Try.ntmps14
  have KX := Lib.hid (KV.three w 24 26 43 [.int .i64 k, .bool a, .int .u64 (r : Nat), .int .u64 (p : Nat), .int .u64 (b : Nat), .int .u64 (x : Nat)] [.int .u64 o, .int .u64 t, .int .u64 l, .bool sn] [.int .u64 0, .int .u64 0, .int .u64 0, .int .u64 0, .int .u64 0, .int .u64 0])
  have K0 := Lib.hid (KX.out.new 43 [.int .u64 o, .int .u64 0, .int .u64 (r : Nat), .int .u64 t, .int .u64 0, .int .u64 (p : Nat)])
  simp only [World.size_alloc] at K0
  have m0 := (KX.out.at 0 rfl).get 0
  have m1 := (KX.out.at 0 rfl).get 1
  have m2 := (KX.out.at 0 rfl).get 2
  have m3 := (KX.out.at 0 rfl).get 3
  have m4 := (KX.out.at 0 rfl).get 4
  have m5 := (KX.out.at 0 rfl).get 5
  simp at m0 m1 m2 m3 m4 m5
  have q0 := (KX.out.at 1 rfl).get 0
  have q1 := (KX.out.at 1 rfl).get 1
  have q2 := (KX.out.at 1 rfl).get 2
  have q3 := (KX.out.at 1 rfl).get 3
  simp at q0 q1 q2 q3
  go_wp2_with fail
  clear KX m0 m1 m2 m3 m4 m5 q0 q1 q2 q3
  go_loopw [24] (fun i wr => (i = .int .i64 0 ∧ Hid (KV w [(24, w.heap.size, [.int .i64 k, .bool a, .int .u64 (r : Nat), .int .u64 (p : Nat), .int .u64 (b : Nat), .int .u64 (x : Nat)]), (26, w.heap.size + 1, [.int .u64 o, .int .u64 t, .int .u64 l, .bool sn]), (43, w.heap.size + 2, [.int .u64 0, .int .u64 0, .int .u64 0, .int .u64 0, .int .u64 0, .int .u64 0]), (43, w.heap.size + 3, [.int .u64 o, .int .u64 0, .int .u64 (r : Nat), .int .u64 t, .int .u64 0, .int .u64 (p : Nat)])] wr)) ∨ (i = .int .i64 1 ∧ Hid (KV w [(24, w.heap.size, [.int .i64 k, .bool a, .int .u64 (r : Nat), .int .u64 (p : Nat), .int .u64 (b : Nat), .int .u64 (x : Nat)]), (26, w.heap.size + 1, [.int .u64 o, .int .u64 t, .int .u64 l, .bool sn]), (43, w.heap.size + 2, [.int .u64 0, .int .u64 0, .int .u64 0, .int .u64 0, .int .u64 0, .int .u64 0]), (43, w.heap.size + 3, [.int .u64 o, .int .u64 (R : Nat), .int .u64 (r : Nat), .int .u64 t, .int .u64 0, .int .u64 (p : Nat)])] wr)) ∨ (i = .int .i64 2 ∧ Hid (KV w [(24, w.heap.size, [.int .i64 k, .bool a, .int .u64 (r : Nat), .int .u64 (p : Nat), .int .u64 (b : Nat), .int .u64 (x : Nat)]), (26, w.heap.size + 1, [.int .u64 o, .int .u64 t, .int .u64 l, .bool sn]), (43, w.heap.size + 2, [.int .u64 0, .int .u64 0, .int .u64 0, .int .u64 0, .int .u64 0, .int .u64 0]), (43, w.heap.size + 3, [.int .u64 o, .int .u64 (R : Nat), .int .u64 (r : Nat), .int .u64 t, .int .u64 (X : Nat), .int .u64 (p : Nat)])] wr))) (fun i _ => 2 - (intOf i).toNat)
  case atStart => exact .inl ⟨rfl, K0.out⟩
  case round =>
    clear K0
    rcases hrel with ⟨rfl, K1⟩ | ⟨rfl, K1⟩ | ⟨rfl, K1⟩
    · go_wp2_with fail
      refine (C1.out _).mono ?_
      rintro e w1 ⟨rfl, b1⟩
      have K2 := Lib.hid (K1.out.below b1)
      clear b1 K1
      have c0 := (K2.out.at 3 rfl).get 1
      have f0 := (K2.out.at 3 rfl).frozen 1
      simp at c0
      go_wp2_with fail
      go_roundw
      case rel => exact .inr (.inl ⟨rfl, K2.out.put 3 rfl 1 (.int .u64 (R : Nat))⟩)
      case measure => simp [intOf]
    · go_wp2_with fail
      refine (C2.out _).mono ?_
      rintro e w1 ⟨rfl, b1⟩
      have K2 := Lib.hid (K1.out.below b1)
      clear b1 K1
      have c0 := (K2.out.at 3 rfl).get 4
      have f0 := (K2.out.at 3 rfl).frozen 4
      simp at c0
      go_wp2_with fail
      go_roundw
      case rel => exact .inr (.inr ⟨rfl, K2.out.put 3 rfl 4 (.int .u64 (X : Nat))⟩)
      case measure => simp [intOf]
    · have m0 := (K1.out.at 3 rfl).get 0
      have m1 := (K1.out.at 3 rfl).get 1
      have m2 := (K1.out.at 3 rfl).get 2
      have m3 := (K1.out.at 3 rfl).get 3
      have m4 := (K1.out.at 3 rfl).get 4
      have m5 := (K1.out.at 3 rfl).get 5
      simp at m0 m1 m2 m3 m4 m5
      have r0 := (K1.out.at 2 rfl).get 0
      have f0 := (K1.out.at 2 rfl).frozen 0
      have r1 := (K1.out.at 2 rfl).get 1
      have f1 := (K1.out.at 2 rfl).frozen 1
      have r2 := (K1.out.at 2 rfl).get 2
      have f2 := (K1.out.at 2 rfl).frozen 2
      have r3 := (K1.out.at 2 rfl).get 3
      have f3 := (K1.out.at 2 rfl).frozen 3
      have r4 := (K1.out.at 2 rfl).get 4
      have f4 := (K1.out.at 2 rfl).frozen 4
      have r5 := (K1.out.at 2 rfl).get 5
      have f5 := (K1.out.at 2 rfl).frozen 5
      simp at r0 r1 r2 r3 r4 r5
      have K5 := Lib.hid (K1.out.store 2 rfl [.int .u64 o, .int .u64 (R : Nat), .int .u64 (r : Nat), .int .u64 t, .int .u64 (X : Nat), .int .u64 (p : Nat)] rfl)
      have t0 : ((((((wr.setCell ⟨w.heap.size + 2, 0, none⟩ (.int .u64 o)).setCell ⟨w.heap.size + 2, 1, none⟩ (.int .u64 (R : Nat))).setCell ⟨w.heap.size + 2, 2, none⟩ (.int .u64 (r : Nat))).setCell ⟨w.heap.size + 2, 3, none⟩ (.int .u64 t)).setCell ⟨w.heap.size + 2, 4, none⟩ (.int .u64 (X : Nat))).setCell ⟨w.heap.size + 2, 5, none⟩ (.int .u64 (p : Nat))).cell? ⟨w.heap.size + 2, 0, none⟩ = some (.int .u64 o) := (K5.out.at 2 rfl).get 0
      have t1 : ((((((wr.setCell ⟨w.heap.size + 2, 0, none⟩ (.int .u64 o)).setCell ⟨w.heap.size + 2, 1, none⟩ (.int .u64 (R : Nat))).setCell ⟨w.heap.size + 2, 2, none⟩ (.int .u64 (r : Nat))).setCell ⟨w.heap.size + 2, 3, none⟩ (.int .u64 t)).setCell ⟨w.heap.size + 2, 4, none⟩ (.int .u64 (X : Nat))).setCell ⟨w.heap.size + 2, 5, none⟩ (.int .u64 (p : Nat))).cell? ⟨w.heap.size + 2, 1, none⟩ = some (.int .u64 (R : Nat)) := (K5.out.at 2 rfl).get 1
      have t2 : ((((((wr.setCell ⟨w.heap.size + 2, 0, none⟩ (.int .u64 o)).setCell ⟨w.heap.size + 2, 1, none⟩ (.int .u64 (R : Nat))).setCell ⟨w.heap.size + 2, 2, none⟩ (.int .u64 (r : Nat))).setCell ⟨w.heap.size + 2, 3, none⟩ (.int .u64 t)).setCell ⟨w.heap.size + 2, 4, none⟩ (.int .u64 (X : Nat))).setCell ⟨w.heap.size + 2, 5, none⟩ (.int .u64 (p : Nat))).cell? ⟨w.heap.size + 2, 2, none⟩ = some (.int .u64 (r : Nat)) := (K5.out.at 2 rfl).get 2
      have t3 : ((((((wr.setCell ⟨w.heap.size + 2, 0, none⟩ (.int .u64 o)).setCell ⟨w.heap.size + 2, 1, none⟩ (.int .u64 (R : Nat))).setCell ⟨w.heap.size + 2, 2, none⟩ (.int .u64 (r : Nat))).setCell ⟨w.heap.size + 2, 3, none⟩ (.int .u64 t)).setCell ⟨w.heap.size + 2, 4, none⟩ (.int .u64 (X : Nat))).setCell ⟨w.heap.size + 2, 5, none⟩ (.int .u64 (p : Nat))).cell? ⟨w.heap.size + 2, 3, none⟩ = some (.int .u64 t) := (K5.out.at 2 rfl).get 3
      have t4 : ((((((wr.setCell ⟨w.heap.size + 2, 0, none⟩ (.int .u64 o)).setCell ⟨w.heap.size + 2, 1, none⟩ (.int .u64 (R : Nat))).setCell ⟨w.heap.size + 2, 2, none⟩ (.int .u64 (r : Nat))).setCell ⟨w.heap.size + 2, 3, none⟩ (.int .u64 t)).setCell ⟨w.heap.size + 2, 4, none⟩ (.int .u64 (X : Nat))).setCell ⟨w.heap.size + 2, 5, none⟩ (.int .u64 (p : Nat))).cell? ⟨w.heap.size + 2, 4, none⟩ = some (.int .u64 (X : Nat)) := (K5.out.at 2 rfl).get 4
      have t5 : ((((((wr.setCell ⟨w.heap.size + 2, 0, none⟩ (.int .u64 o)).setCell ⟨w.heap.size + 2, 1, none⟩ (.int .u64 (R : Nat))).setCell ⟨w.heap.size + 2, 2, none⟩ (.int .u64 (r : Nat))).setCell ⟨w.heap.size + 2, 3, none⟩ (.int .u64 t)).setCell ⟨w.heap.size + 2, 4, none⟩ (.int .u64 (X : Nat))).setCell ⟨w.heap.size + 2, 5, none⟩ (.int .u64 (p : Nat))).cell? ⟨w.heap.size + 2, 5, none⟩ = some (.int .u64 (p : Nat)) := (K5.out.at 2 rfl).get 5
      go_wp2_with fail
      exact bodyPost_ret (v := .agg #[.int .u64 o, .int .u64 (R : Nat), .int .u64 (r : Nat), .int .u64 t, .int .u64 (X : Nat), .int .u64 (p : Nat)]) (by simp [results, Try.results14, go_sem, t0, t1, t2, t3, t4, t5]) rfl ⟨rfl, K5.out.bel⟩
set_option maxRecDepth 10000 in
set_option maxHeartbeats 1600000 in
theorem grow_any (w0 w : World) (L : List (TypeId × Nat × List Value)) (i g o : Nat) (ty : TypeId) (cs : List Value) (l r a el q : Nat) (hK : Hid (KV w0 L w)) (hi : L[i]? = some (ty, g, cs)) (h0 : cs[o]? = some (.int .u64 l)) (h1 : cs[o + 1]? = some (.int .u64 r)) (h2 : cs[o + 2]? = some (.int .u64 a))
    (hl : l ≤ 18446744073709551615) (hr : r ≤ 18446744073709551615) (ha : a ≤ 18446744073709551615) (hel : el ≤ 18446744073709551615) (hq : Hid (q = l + bkPut l r (a * el))) :
    Calls Try.prog 16 #[.pointer (some ⟨g, o, none⟩), .int .u64 el] w fun e w' => e = .returned (.tuple #[]) ∧ KV w0 (L.set i (ty, g, cs.set o (.int .u64 q))) w' := by
  obtain ⟨x, hx⟩ : ∃ x, x = whi (a * el - bkPut l r (a * el)) := ⟨_, rfl⟩
  obtain ⟨y, hy⟩ : ∃ y, y = wlo (a * el - bkPut l r (a * el)) := ⟨_, rfl⟩
  have CG : Hid (∀ w, Calls Try.prog 25 #[.int .u64 l, .int .u64 r, .int .u64 a, .int .u64 el] w fun e w' => e = .returned (.tuple #[.int .u64 q, .agg #[.int .u64 x, .int .u64 y]]) ∧ Below w.heap.size w w') := fun w => bkgrow_any l r a el x y q w hl hr ha hel hq hx hy
  have hlen : o < cs.length := by
    rcases Nat.lt_or_ge o cs.length with h | h
    · exact h
    · rw [List.getElem?_eq_none h] at h0; cases h0
  clear hl hr ha hel hq hx hy
  go_enter Try.func16, Try.ntmps16
  go_upto_region 0 with fail
  refine wp_region_put (C0 := KV w0 L) (C1 := KV w0 (L.set i (ty, g, cs.set o (.int .u64 q)))) [some (.pointer (some ⟨g, o, none⟩)), some (.pointer (some ⟨g, o, none⟩)), some (.pointer (some ⟨g, o, none⟩)), some (.pointer (some ⟨g, o, none⟩)), some (.int .u64 l), some (.pointer (some ⟨g, o, none⟩)), some (.pointer (some ⟨g, o, none⟩)), some (.pointer (some ⟨g, o + 1, none⟩)), some (.int .u64 r), some (.pointer (some ⟨g, o, none⟩)), some (.pointer (some ⟨g, o, none⟩)), some (.pointer (some ⟨g, o + 2, none⟩)), some (.int .u64 a), some (.int .u64 el), some (.tuple #[.int .u64 q, .agg #[.int .u64 x, .int .u64 y]]), some (.tuple #[.int .u64 q, .agg #[.int .u64 x, .int .u64 y]]), some (.int .u64 q), some (.agg #[.int .u64 x, .int .u64 y]), some (.pointer (some ⟨g, o, none⟩)), some (.pointer (some ⟨g, o, none⟩)), none] 20 [0, 1, 2, 3, 4, 5, 6, 7, 8, 9, 10, 11, 12, 13, 14, 15, 16, 18, 19] (by kernel_rfl) (by kernel_rfl) hK.out.drew ?_ (fun W9 hW9 => ?_)
  · clear hK
    refine putWalk_quiet rfl (fun W hw' => quietAt_run rfl) (fun hna => absurd hna (by decide)) ?_
    simp only [Act.put, List.setIfInBounds_toArray, List.set_cons_zero, List.set_cons_succ]
    refine putWalk_quiet rfl (fun W hw' => quietAt_run rfl) (fun hna => absurd hna (by decide)) ?_
    simp only [Act.put, List.setIfInBounds_toArray, List.set_cons_zero, List.set_cons_succ]
    refine putWalk_quiet rfl (fun W hw' => quietAt_run (by simp [go_sem])) (fun hna => absurd hna (by decide)) ?_
    simp only [Act.put, List.setIfInBounds_toArray, List.set_cons_zero, List.set_cons_succ]
    refine putWalk_quiet rfl (fun W hw' => quietAt_run (by simp [go_sem])) (fun hna => absurd hna (by decide)) ?_
    simp only [Act.put, List.setIfInBounds_toArray, List.set_cons_zero, List.set_cons_succ]
    refine putWalk_quiet rfl (fun W hw' => quietAt_cell (j := o) rfl rfl one_u64 (hw'.at i hi) h0) (fun hna => absurd hna (by decide)) ?_
    simp only [Act.put, List.setIfInBounds_toArray, List.set_cons_zero, List.set_cons_succ]
    refine putWalk_quiet rfl (fun W hw' => quietAt_run rfl) (fun hna => absurd hna (by decide)) ?_
    simp only [Act.put, List.setIfInBounds_toArray, List.set_cons_zero, List.set_cons_succ]
    refine putWalk_quiet rfl (fun W hw' => quietAt_run (by simp [go_sem])) (fun hna => absurd hna (by decide)) ?_
    simp only [Act.put, List.setIfInBounds_toArray, List.set_cons_zero, List.set_cons_succ]
    refine putWalk_quiet rfl (fun W hw' => quietAt_run (by simp [go_sem])) (fun hna => absurd hna (by decide)) ?_
    simp only [Act.put, List.setIfInBounds_toArray, List.set_cons_zero, List.set_cons_succ]
    refine putWalk_quiet rfl (fun W hw' => quietAt_cell (j := o + 1) rfl rfl one_u64 (hw'.at i hi) h1) (fun hna => absurd hna (by decide)) ?_
    simp only [Act.put, List.setIfInBounds_toArray, List.set_cons_zero, List.set_cons_succ]
    refine putWalk_quiet rfl (fun W hw' => quietAt_run rfl) (fun hna => absurd hna (by decide)) ?_
    simp only [Act.put, List.setIfInBounds_toArray, List.set_cons_zero, List.set_cons_succ]
    refine putWalk_quiet rfl (fun W hw' => quietAt_run (by simp [go_sem])) (fun hna => absurd hna (by decide)) ?_
    simp only [Act.put, List.setIfInBounds_toArray, List.set_cons_zero, List.set_cons_succ]
    refine putWalk_quiet rfl (fun W hw' => quietAt_run (by simp [go_sem])) (fun hna => absurd hna (by decide)) ?_
    simp only [Act.put, List.setIfInBounds_toArray, List.set_cons_zero, List.set_cons_succ]
    refine putWalk_quiet rfl (fun W hw' => quietAt_cell (j := o + 2) rfl rfl one_u64 (hw'.at i hi) h2) (fun hna => absurd hna (by decide)) ?_
    simp only [Act.put, List.setIfInBounds_toArray, List.set_cons_zero, List.set_cons_succ]
    refine putWalk_quiet rfl (fun W hw' => quietAt_run rfl) (fun hna => absurd hna (by decide)) ?_
    simp only [Act.put, List.setIfInBounds_toArray, List.set_cons_zero, List.set_cons_succ]
    refine putWalk_quiet rfl (fun W hw' => quietAt_call (f := 25) (args := #[.int .u64 l, .int .u64 r, .int .u64 a, .int .u64 el]) (by simp [go_sem]) ((CG.out W).mono fun e w'' h => ⟨h.1, hw'.below h.2⟩)) (fun hna => absurd hna (by decide)) ?_
    simp only [Act.put, List.setIfInBounds_toArray, List.set_cons_zero, List.set_cons_succ]
    refine putWalk_quiet rfl (fun W hw' => quietAt_run rfl) (fun hna => absurd hna (by decide)) ?_
    simp only [Act.put, List.setIfInBounds_toArray, List.set_cons_zero, List.set_cons_succ]
    refine putWalk_quiet rfl (fun W hw' => quietAt_run (by simp [go_sem])) (fun hna => absurd hna (by decide)) ?_
    simp only [Act.put, List.setIfInBounds_toArray, List.set_cons_zero, List.set_cons_succ]
    refine putWalk_quiet rfl (fun W hw' => quietAt_run (by simp [go_sem])) (fun hna => fun W hw' => quietAt_run (by simp [go_sem])) ?_
    simp only [Act.put, List.setIfInBounds_toArray, List.set_cons_zero, List.set_cons_succ]
    refine putWalk_quiet rfl (fun W hw' => quietAt_run (by simp [go_sem])) (fun hna => absurd hna (by decide)) ?_
    simp only [Act.put, List.setIfInBounds_toArray, List.set_cons_zero, List.set_cons_succ]
    refine putWalk_quiet rfl (fun W hw' => quietAt_run (by simp [go_sem])) (fun hna => absurd hna (by decide)) ?_
    simp only [Act.put, List.setIfInBounds_toArray, List.set_cons_zero, List.set_cons_succ]
    refine putWalk_put rfl (put_cell64 i hi rfl rfl rfl hlen) ?_
    trivial
  · clear hK
    have K9 := Lib.hid hW9
    clear hW9
    go_wp2_with fail
    go_end0
    exact ⟨rfl, K9.out⟩
set_option maxRecDepth 10000 in
theorem ptake_any (w0 w : World) (L : List (TypeId × Nat × List Value)) (i g o : Nat) (ty : TypeId) (cs : List Value) (l q : Nat) (s : Int) (b : Bool) (hK : Hid (KV w0 L w)) (hi : L[i]? = some (ty, g, cs)) (h0 : cs[o]? = some (.int .u64 l))
    (hl : l ≤ 18446744073709551615) (hs : s ≤ 9223372036854775807) (hq : Hid (q = bkLeft l s)) (hb : Hid (b = bkCan l s)) :
    Calls Try.prog 26 #[.pointer (some ⟨g, o, none⟩), .int .i64 s] w fun e w' => e = .returned (.bool b) ∧ KV w0 (L.set i (ty, g, cs.set o (.int .u64 q))) w' := by
  have CT := Lib.hid (fun w => bktake_any l q s b w hl hs hq hb)
  have c0 := (hK.out.at i hi).get o
  rw [h0] at c0
  have H0 := Lib.hid h0
  have HI := Lib.hid hi
  clear hl hs hq hb h0 hi
  go_enter Try.func26, Try.ntmps26
  go_wp2_with fail
  refine (CT.out _).mono ?_
  rintro e w1 ⟨rfl, b1⟩
  have K1 := Lib.hid (hK.out.below b1)
  clear b1 hK c0
  have c0 := (K1.out.at i HI.out).get o
  have f0 := (K1.out.at i HI.out).frozen o
  rw [H0.out] at c0
  go_wp2_with fail
  go_ret
  exact ⟨rfl, K1.out.put i HI.out o (.int .u64 q)⟩
theorem set_same {α : Type} {L : List α} {i : Nat} {p : α} (h : L[i]? = some p) : L.set i p = L := by
  apply List.ext_getElem?
  intro k
  by_cases e : i = k
  · subst e
    rw [List.getElem?_set_self (by rcases Nat.lt_or_ge i L.length with h2 | h2; exact h2; rw [List.getElem?_eq_none h2] at h; cases h), h]
  · rw [List.getElem?_set_ne e]
theorem set_at {α : Type} {L : List α} {i : Nat} {p : α} (q : α) (h : L[i]? = some p) : (L.set i q)[i]? = some q :=
  List.getElem?_set_self (by rcases Nat.lt_or_ge i L.length with h2 | h2; exact h2; rw [List.getElem?_eq_none h2] at h; cases h)
theorem front_at {α : Type} {L M : List α} {i : Nat} {p : α} (h : L[i]? = some p) : (L ++ M)[i]? = some p := by
  rw [List.getElem?_append_left (by rcases Nat.lt_or_ge i L.length with h2 | h2; exact h2; rw [List.getElem?_eq_none h2] at h; cases h)]
  exact h
theorem back_at {α : Type} (L : List α) (p : α) : (L ++ [p])[L.length]? = some p := by simp
theorem set_front {α : Type} {L M : List α} {i : Nat} {p : α} (q : α) (h : L[i]? = some p) : (L ++ M).set i q = L.set i q ++ M :=
  List.set_append_left _ _ (by rcases Nat.lt_or_ge i L.length with h2 | h2; exact h2; rw [List.getElem?_eq_none h2] at h; cases h)
theorem KV.front {w W : World} {L M : List (TypeId × Nat × List Value)} (h : KV w (L ++ M) W) : KV w L W :=
  ⟨fun i p hp => h.arr i p (front_at hp), fun i p hp => h.own i p (front_at hp), fun i j p q hp hq => h.apart i j p q (front_at hp) (front_at hq), h.bel⟩
theorem sgCol_out {pre : Int} (h0 : pre ≠ 0) (h1 : pre ≠ 1) : sgCol true pre = 2 := by
  unfold sgCol
  rw [if_pos rfl]
  split <;> omega
theorem sgCol_aware (a : Bool) (pre : Int) : sgCol a pre = sgCol true (if a = true then pre else 0) := by cases a <;> rfl
theorem dbTake_keeps (x : Lv) (size c : Int) : ∃ n0 n1 k, dbTake x size c = (⟨n0, n1, x.last, x.seen⟩, k) := by
  unfold dbTake
  split
  · exact ⟨_, _, _, rfl⟩
  · split <;> exact ⟨_, _, _, rfl⟩
theorem dbTake_red (x : Lv) (size : Int) : dbTake x size 2 = (x, 2) := by unfold dbTake; simp
theorem dbTake_empty {x : Lv} {size c : Int} (h : bkCan x.two size = false) : dbTake x size c = (x, 2) := by unfold dbTake; simp [h]
theorem dbTake_pale {x : Lv} {size : Int} (h : bkCan x.two size = true) : dbTake x size 1 = (⟨x.one, bkLeft x.two size, x.last, x.seen⟩, 1) := by
  unfold dbTake bkLeft
  simp [h]
theorem dbTake_low {x : Lv} {size : Int} (h : bkCan x.two size = true) (h2 : bkCan x.one size = false) : dbTake x size 0 = (⟨x.one, bkLeft x.two size, x.last, x.seen⟩, 1) := by
  unfold dbTake bkLeft
  simp [h, h2]
theorem dbTake_green {x : Lv} {size : Int} (h : bkCan x.two size = true) (h2 : bkCan x.one size = true) : dbTake x size 0 = (⟨bkLeft x.one size, bkLeft x.two size, x.last, x.seen⟩, 0) := by
  unfold dbTake bkLeft
  simp [h, h2]
theorem lv_back {n0 n1 m0 m1 last : Nat} {seen : Bool} {c k : Int} (h : ((⟨m0, m1, last, seen⟩ : Lv), k) = (⟨n0, n1, last, seen⟩, c)) : n0 = m0 ∧ n1 = m1 ∧ c = k := by
  injection h with h1 h2
  injection h1 with h3 h4
  exact ⟨h3.symm, h4.symm, h2.symm⟩
set_option maxRecDepth 10000 in
theorem take_any (w0 w : World) (L : List (TypeId × Nat × List Value)) (i g : Nat) (l0 r0 a0 l1 r1 a1 last n0 n1 : Nat) (seen : Bool) (size pre c : Int) (hK : Hid (KV w0 L w)) (hi : L[i]? = some (43, g, [.int .u64 (l0 : Nat), .int .u64 (r0 : Nat), .int .u64 (a0 : Nat), .int .u64 (l1 : Nat), .int .u64 (r1 : Nat), .int .u64 (a1 : Nat)]))
    (hl0 : l0 ≤ 18446744073709551615) (hl1 : l1 ≤ 18446744073709551615) (hs : size ≤ 9223372036854775807) (hN : dbTake ⟨l0, l1, last, seen⟩ size (sgCol true pre) = (⟨n0, n1, last, seen⟩, c)) :
    Calls Try.prog 17 #[.pointer (some ⟨g, 0, none⟩), .int .i64 size, .int .i64 pre] w fun e w' => e = .returned (.int .i64 c) ∧ KV w0 (L.set i (43, g, [.int .u64 (n0 : Nat), .int .u64 (r0 : Nat), .int .u64 (a0 : Nat), .int .u64 (n1 : Nat), .int .u64 (r1 : Nat), .int .u64 (a1 : Nat)])) w' := by
  by_cases hp : pre ≠ 0 ∧ pre ≠ 1
  · rw [sgCol_out hp.1 hp.2, dbTake_red] at hN
    obtain ⟨rfl, rfl, rfl⟩ := lv_back hN
    rw [set_same hi]
    have i0 : (pre != 0) = true := by rw [bne_iff_ne]; exact hp.1
    have i1 : (pre != 1) = true := by rw [bne_iff_ne]; exact hp.2
    clear hl0 hl1 hs hN hi
    go_enter Try.func17, Try.ntmps17
    go_wp2_with fail
    go_ret
    exact ⟨rfl, hK.out⟩
  · have hp2 : pre = 0 ∨ pre = 1 := by
      by_cases h : pre = 0
      · exact .inl h
      · exact .inr (Classical.not_not.1 fun h2 => hp ⟨h, h2⟩)
    clear hp
    obtain ⟨b1, hb1⟩ : ∃ b, b = bkCan l1 size := ⟨_, rfl⟩
    obtain ⟨b0, hb0⟩ : ∃ b, b = bkCan l0 size := ⟨_, rfl⟩
    obtain ⟨q1, hq1⟩ : ∃ q, q = bkLeft l1 size := ⟨_, rfl⟩
    obtain ⟨q0, hq0⟩ : ∃ q, q = bkLeft l0 size := ⟨_, rfl⟩
    have P1 : Hid (∀ w, KV w0 L w → Calls Try.prog 26 #[.pointer (some ⟨g, 3, none⟩), .int .i64 size] w fun e w' => e = .returned (.bool b1) ∧ KV w0 (L.set i (43, g, [.int .u64 (l0 : Nat), .int .u64 (r0 : Nat), .int .u64 (a0 : Nat), .int .u64 (q1 : Nat), .int .u64 (r1 : Nat), .int .u64 (a1 : Nat)])) w') := fun w h => ptake_any w0 w L i g 3 43 _ l1 q1 size b1 h hi rfl hl1 hs hq1 hb1
    have P2 : Hid (∀ w, KV w0 (L.set i (43, g, [.int .u64 (l0 : Nat), .int .u64 (r0 : Nat), .int .u64 (a0 : Nat), .int .u64 (q1 : Nat), .int .u64 (r1 : Nat), .int .u64 (a1 : Nat)])) w → Calls Try.prog 26 #[.pointer (some ⟨g, 0, none⟩), .int .i64 size] w fun e w' => e = .returned (.bool b0) ∧ KV w0 (L.set i (43, g, [.int .u64 (q0 : Nat), .int .u64 (r0 : Nat), .int .u64 (a0 : Nat), .int .u64 (q1 : Nat), .int .u64 (r1 : Nat), .int .u64 (a1 : Nat)])) w') := fun w h => by
      have := ptake_any w0 w _ i g 0 43 _ l0 q0 size b0 h (set_at _ hi) rfl hl0 hs hq0 hb0
      rw [List.set_set] at this
      exact this
    clear hl0 hl1 hs
    cases b1 with
    | false =>
      have e1 : q1 = l1 := by rw [hq1]; exact bkleft_cant hb1.symm
      subst e1
      rcases hp2 with rfl | rfl
      · rw [show sgCol true 0 = 0 from by decide, dbTake_empty hb1.symm] at hN
        obtain ⟨rfl, rfl, rfl⟩ := lv_back hN
        clear hN
        clear hq0 hq1 hb0 hb1 hi
        go_enter Try.func17, Try.ntmps17
        go_wp2_with fail
        refine (P1.out _ hK.out).mono ?_
        rintro e w1 ⟨rfl, k1⟩
        have K1 := Lib.hid k1
        clear k1 hK
        go_wp2_with fail
        go_ret
        exact ⟨rfl, K1.out⟩
      · rw [show sgCol true 1 = 1 from by decide, dbTake_empty hb1.symm] at hN
        obtain ⟨rfl, rfl, rfl⟩ := lv_back hN
        clear hN
        clear hq0 hq1 hb0 hb1 hi
        go_enter Try.func17, Try.ntmps17
        go_wp2_with fail
        refine (P1.out _ hK.out).mono ?_
        rintro e w1 ⟨rfl, k1⟩
        have K1 := Lib.hid k1
        clear k1 hK
        go_wp2_with fail
        go_ret
        exact ⟨rfl, K1.out⟩
    | true =>
      rcases hp2 with rfl | rfl
      · cases b0 with
        | false =>
          have e0 : q0 = l0 := by rw [hq0]; exact bkleft_cant hb0.symm
          subst e0
          rw [show sgCol true 0 = 0 from by decide, dbTake_low hb1.symm hb0.symm] at hN
          dsimp only at hN
          rw [← hq1] at hN
          obtain ⟨rfl, rfl, rfl⟩ := lv_back hN
          clear hN
          clear hq0 hq1 hb0 hb1 hi
          go_enter Try.func17, Try.ntmps17
          go_wp2_with fail
          refine (P1.out _ hK.out).mono ?_
          rintro e w1 ⟨rfl, k1⟩
          have K1 := Lib.hid k1
          clear k1 hK
          go_wp2_with fail
          refine (P2.out _ K1.out).mono ?_
          rintro e w2 ⟨rfl, k2⟩
          have K2 := Lib.hid k2
          clear k2 K1
          go_wp2_with fail
          go_ret
          exact ⟨rfl, K2.out⟩
        | true =>
          rw [show sgCol true 0 = 0 from by decide, dbTake_green hb1.symm hb0.symm] at hN
          dsimp only at hN
          rw [← hq1, ← hq0] at hN
          obtain ⟨rfl, rfl, rfl⟩ := lv_back hN
          clear hN
          clear hq0 hq1 hb0 hb1 hi
          go_enter Try.func17, Try.ntmps17
          go_wp2_with fail
          refine (P1.out _ hK.out).mono ?_
          rintro e w1 ⟨rfl, k1⟩
          have K1 := Lib.hid k1
          clear k1 hK
          go_wp2_with fail
          refine (P2.out _ K1.out).mono ?_
          rintro e w2 ⟨rfl, k2⟩
          have K2 := Lib.hid k2
          clear k2 K1
          go_wp2_with fail
          go_ret
          exact ⟨rfl, K2.out⟩
      · rw [show sgCol true 1 = 1 from by decide, dbTake_pale hb1.symm] at hN
        dsimp only at hN
        rw [← hq1] at hN
        obtain ⟨rfl, rfl, rfl⟩ := lv_back hN
        clear hN
        clear hq0 hq1 hb0 hb1 hi
        go_enter Try.func17, Try.ntmps17
        go_wp2_with fail
        refine (P1.out _ hK.out).mono ?_
        rintro e w1 ⟨rfl, k1⟩
        have K1 := Lib.hid k1
        clear k1 hK
        go_wp2_with fail
        go_ret
        exact ⟨rfl, K1.out⟩
set_option maxRecDepth 10000 in
set_option maxHeartbeats 1600000 in
theorem later_any (w0 w : World) (L : List (TypeId × Nat × List Value)) (i j g gf : Nat) (l0 r0 a0 l1 r1 a1 q0 q1 last time now el : Nat) (o t : Int) (seen : Bool) (hK : Hid (KV w0 L w)) (hi : L[i]? = some (43, g, [.int .u64 (l0 : Nat), .int .u64 (r0 : Nat), .int .u64 (a0 : Nat), .int .u64 (l1 : Nat), .int .u64 (r1 : Nat), .int .u64 (a1 : Nat)])) (hj : L[j]? = some (46, gf, [.func (.func 16) #[.pointer (some ⟨g, 0, none⟩)] #[], .func (.func 16) #[.pointer (some ⟨g, 3, none⟩)] #[]])) (hij : i ≠ j)
    (hl0 : l0 ≤ 18446744073709551615) (hr0 : r0 ≤ 18446744073709551615) (ha0 : a0 ≤ 18446744073709551615) (hl1 : l1 ≤ 18446744073709551615) (hr1 : r1 ≤ 18446744073709551615) (ha1 : a1 ≤ 18446744073709551615) (hl : last ≤ 18446744073709551615) (ht : time ≤ 18446744073709551615)
    (hnow : Hid (now = rtNow last seen time)) (hel : Hid (el = rtGap last seen time)) (hq0 : Hid (q0 = l0 + bkPut l0 r0 (a0 * el))) (hq1 : Hid (q1 = l1 + bkPut l1 r1 (a1 * el))) :
    Calls Try.prog 15 #[.agg #[.int .u64 o, .int .u64 t, .int .u64 (last : Nat), .bool seen], .int .u64 time, .slice (some ⟨gf, 0, none⟩) 2 2] w fun e w' => e = .returned (.int .u64 now) ∧ KV w0 (L.set i (43, g, [.int .u64 (q0 : Nat), .int .u64 (r0 : Nat), .int .u64 (a0 : Nat), .int .u64 (q1 : Nat), .int .u64 (r1 : Nat), .int .u64 (a1 : Nat)])) w' := by
  have hel64 : el ≤ 18446744073709551615 := by
    rw [hel.out]
    unfold rtGap
    split <;> omega
  have CS : Hid (∀ w, Calls Try.prog 24 #[.int .u64 last, .bool seen, .int .u64 time] w fun e w' => e = .returned (.tuple #[.int .u64 now, .int .u64 el]) ∧ w = w') := fun w => by
    rw [hnow.out, hel.out]
    exact rtstep_any last time seen w ht
  obtain ⟨M, hM⟩ : ∃ M, M = L ++ [(26, w.heap.size, [.int .u64 o, .int .u64 t, .int .u64 (last : Nat), .bool seen])] := ⟨_, rfl⟩
  have mi : M[i]? = some (43, g, [.int .u64 (l0 : Nat), .int .u64 (r0 : Nat), .int .u64 (a0 : Nat), .int .u64 (l1 : Nat), .int .u64 (r1 : Nat), .int .u64 (a1 : Nat)]) := by rw [hM]; exact front_at hi
  have mj : M[j]? = some (46, gf, [.func (.func 16) #[.pointer (some ⟨g, 0, none⟩)] #[], .func (.func 16) #[.pointer (some ⟨g, 3, none⟩)] #[]]) := by rw [hM]; exact front_at hj
  have mb : M[L.length]? = some (26, w.heap.size, [.int .u64 o, .int .u64 t, .int .u64 (last : Nat), .bool seen]) := by rw [hM]; exact back_at _ _
  have G0 : Hid (∀ w, KV w0 M w → Calls Try.prog 16 #[.pointer (some ⟨g, 0, none⟩), .int .u64 el] w fun e w' => e = .returned (.tuple #[]) ∧ KV w0 (M.set i (43, g, [.int .u64 (q0 : Nat), .int .u64 (r0 : Nat), .int .u64 (a0 : Nat), .int .u64 (l1 : Nat), .int .u64 (r1 : Nat), .int .u64 (a1 : Nat)])) w') := fun w h => grow_any w0 w M i g 0 43 _ l0 r0 a0 el q0 h mi rfl rfl rfl hl0 hr0 ha0 hel64 hq0
  have G1 : Hid (∀ w, KV w0 (M.set i (43, g, [.int .u64 (q0 : Nat), .int .u64 (r0 : Nat), .int .u64 (a0 : Nat), .int .u64 (l1 : Nat), .int .u64 (r1 : Nat), .int .u64 (a1 : Nat)])) w → Calls Try.prog 16 #[.pointer (some ⟨g, 3, none⟩), .int .u64 el] w fun e w' => e = .returned (.tuple #[]) ∧ KV w0 (M.set i (43, g, [.int .u64 (q0 : Nat), .int .u64 (r0 : Nat), .int .u64 (a0 : Nat), .int .u64 (q1 : Nat), .int .u64 (r1 : Nat), .int .u64 (a1 : Nat)])) w') := fun w h => by
    have := grow_any w0 w _ i g 3 43 _ l1 r1 a1 el q1 h (set_at _ mi) rfl rfl rfl hl1 hr1 ha1 hel64 hq1
    rw [List.set_set] at this
    exact this
  have mj1 : ∀ q, (M.set i q)[j]? = some (46, gf, [.func (.func 16) #[.pointer (some ⟨g, 0, none⟩)] #[], .func (.func 16) #[.pointer (some ⟨g, 3, none⟩)] #[]]) := fun q => by rw [List.getElem?_set_ne hij]; exact mj
  have FR : Hid (∀ W, KV w0 (M.set i (43, g, [.int .u64 (q0 : Nat), .int .u64 (r0 : Nat), .int .u64 (a0 : Nat), .int .u64 (q1 : Nat), .int .u64 (r1 : Nat), .int .u64 (a1 : Nat)])) W → KV w0 (L.set i (43, g, [.int .u64 (q0 : Nat), .int .u64 (r0 : Nat), .int .u64 (a0 : Nat), .int .u64 (q1 : Nat), .int .u64 (r1 : Nat), .int .u64 (a1 : Nat)])) W) := fun W h => by
    rw [hM, set_front _ hi] at h
    exact h.front
  have K0 : Hid (KV w0 M (w.alloc (.cells #[.int .u64 o, .int .u64 t, .int .u64 (last : Nat), .bool seen] 26))) := by rw [hM]; exact hK.out.new 26 [.int .u64 o, .int .u64 t, .int .u64 (last : Nat), .bool seen]
  have hmf : ∀ (fn : Fn) (first cap : Array Value) (w : World), (Instr.makeFunc fn first cap).run Try.prog w = .ok (.func fn first cap) w := fun _ _ _ _ => rfl
  have MJ : Hid (M[j]? = some (46, gf, [.func (.func 16) #[.pointer (some ⟨g, 0, none⟩)] #[], .func (.func 16) #[.pointer (some ⟨g, 3, none⟩)] #[]])) := mj
  have MJ1 := Lib.hid mj1
  have c2 := (K0.out.at _ mb).get 2
  have c3 := (K0.out.at _ mb).get 3
  simp at c2 c3
  clear hK hM mi mj mb mj1 hi hj hij hl0 hr0 ha0 hl1 hr1 ha1 hl ht hnow hel hq0 hq1 hel64
  go_enter Try.func15, Try.ntmps15
  go_wp2_with fail
  refine (CS.out _).mono ?_
  rintro e w1 ⟨rfl, rfl⟩
  clear c2 c3
  go_wp2_with fail
  go_loopw [22] (fun k wr => (k = .int .i64 0 ∧ Hid (KV w0 M wr)) ∨ (k = .int .i64 1 ∧ Hid (KV w0 (M.set i (43, g, [.int .u64 (q0 : Nat), .int .u64 (r0 : Nat), .int .u64 (a0 : Nat), .int .u64 (l1 : Nat), .int .u64 (r1 : Nat), .int .u64 (a1 : Nat)])) wr)) ∨ (k = .int .i64 2 ∧ Hid (KV w0 (M.set i (43, g, [.int .u64 (q0 : Nat), .int .u64 (r0 : Nat), .int .u64 (a0 : Nat), .int .u64 (q1 : Nat), .int .u64 (r1 : Nat), .int .u64 (a1 : Nat)])) wr))) (fun k _ => 2 - (intOf k).toNat)
  case atStart => exact .inl ⟨rfl, K0⟩
  case round =>
    clear K0
    rcases hrel with ⟨rfl, K1⟩ | ⟨rfl, K1⟩ | ⟨rfl, K1⟩
    · have c0 := (K1.out.at j MJ.out).get 0
      simp at c0
      go_wp2_with fail
      refine (G0.out _ K1.out).mono ?_
      rintro e w1 ⟨rfl, k2⟩
      have K2 := Lib.hid k2
      clear k2 K1 c0
      go_wp2_with fail
      go_roundw
      case rel => exact .inr (.inl ⟨rfl, K2⟩)
      case measure => simp [intOf]
    · have c0 := (K1.out.at j (MJ1.out _)).get 1
      simp at c0
      go_wp2_with fail
      refine (G1.out _ K1.out).mono ?_
      rintro e w1 ⟨rfl, k2⟩
      have K2 := Lib.hid k2
      clear k2 K1 c0
      go_wp2_with fail
      go_roundw
      case rel => exact .inr (.inr ⟨rfl, K2⟩)
      case measure => simp [intOf]
    · go_wp2_with fail
      go_ret
      exact ⟨rfl, FR.out _ K1.out⟩
end Go.Proofs.Ytdeehkhdmohalaa