/-
  The walks of the statements DoubleSteps and DoubleRuns.
-/
import Derived.Test.YtdeehkhdmohalaaDb4
import Derived.Test.YtdeehkhdmohalaaLive27
namespace Go.Proofs.Ytdeehkhdmohalaa
open Go.RowKit
set_option linter.unusedVariables false
attribute [local go_sem ↓] Go.wp_at_zero Go.wp_at_succ

/-- A load of a cell that was there when the call began. -/
theorem quietAt_far {C : World → Prop} {o : Oper} {a : Act} {W : World} {t : TypeId} {x : Operand} {p : Addr} {v : Value} (ho : o.op = .load t x) (hx : a.eval x = .pointer (some p)) (ht : OneTy t) (hc : W.cell? p = some v) :
    Oper.quietAt Try.prog o a C W v := by
  have hload : (Instr.loadAt t (.pointer (some p))).run Try.prog W = .ok v W := by
    simp [Instr.loadAt, Instr.sureAddr, loadVar, go_sem, ht W, hc]
  unfold Oper.quietAt execOp
  simp only [ho, hx, Sem.run_bind, Sem.run_pure, hload, Result.andThen_ok]
  exact ⟨rfl, rfl⟩
theorem dbLater_ok {m : Mt} {s : Lv} {t : Nat} (hb : m.burst ≤ 4294967296) (hx : m.extra ≤ 4294967296) (hs : LvOk s) (ht : t ≤ 18446744073709551615) : LvOk (dbLater m s t) :=
  ⟨bk_level hs.one (by omega), bk_level hs.two (by omega), by
    show rtNow _ _ _ ≤ _
    unfold rtNow
    have := hs.last
    split <;> omega⟩
theorem dbl_meas {i n : Nat} (h : i < n) : n - (intOf (.int .i64 ((i + 1 : Nat) : Int))).toNat < n - (intOf (.int .i64 (i : Int))).toNat := by
  have e1 : (intOf (.int .i64 ((i + 1 : Nat) : Int))).toNat = i + 1 := Int.toNat_natCast _
  have e2 : (intOf (.int .i64 (i : Int))).toNat = i := Int.toNat_natCast _
  rw [e1, e2]
  omega
/-- A level stays one. -/
theorem dbStep_ok {m : Mt} {s n : Lv} {t : Nat} {size pre c : Int} (hs : LvOk s) (ht : t ≤ 18446744073709551615) (h : dbStep m s t size pre = (n, c)) : LvOk n := by
  unfold dbStep at h
  split at h
  · injection h with h1 h2
    subst h1
    exact hs
  · rename_i hk
    have hok := dbCheck_ok (Classical.not_not.1 fun h => hk (.inl h))
    have hl := dbLater_ok hok.2.2.2.1.2 hok.2.2.2.2.2 hs ht
    unfold dbTake at h
    split at h
    · injection h with h1 h2
      subst h1
      exact hl
    · split at h
      · injection h with h1 h2
        subst h1
        exact ⟨hl.one, Nat.le_trans (Nat.sub_le _ _) hl.two, hl.last⟩
      · injection h with h1 h2
        subst h1
        exact ⟨Nat.le_trans (Nat.sub_le _ _) hl.one, Nat.le_trans (Nat.sub_le _ _) hl.two, hl.last⟩
theorem dbNew_ok (m : Mt) : LvOk (dbNew m) := by
  unfold dbNew
  split
  · rename_i hk
    have hok := dbCheck_ok hk
    have h1 := hok.2.2.2.1.2
    have h2 := hok.2.2.2.2.2
    exact ⟨by show 1000000000 * m.burst ≤ _; omega, by show 1000000000 * m.extra ≤ _; omega, by show 0 ≤ _; omega⟩
  · exact ⟨by decide, by decide, by decide⟩
set_option maxRecDepth 10000 in
set_option maxHeartbeats 3200000 in
theorem walk_DoubleSteps (m : Mt) (s : Lv) (x : Ak) (w : World) (hm : MtOk m) (hs : LvOk s) (hx : AkOk x) :
    Calls Try.prog 3 #[.agg (mtC m).toArray, .agg (lvC s).toArray, .agg #[.int .u64 (x.time : Nat), .int .i64 x.size, .int .i64 x.pre]] w fun e w' => e = .returned (.bool true) ∧ Below w.heap.size w w' := by
  obtain ⟨c, hc⟩ : ∃ c, c = dbCheck m := ⟨_, rfl⟩
  obtain ⟨n, hn⟩ : ∃ n, n = dbNew m := ⟨_, rfl⟩
  obtain ⟨y, q, hq⟩ : ∃ y q, dbStep m s x.time x.size x.pre = (y, q) := ⟨_, _, rfl⟩
  have hzs := hx.size.2
  have E1 := Lib.hid (fun w => level_same (dbNew_ok m) w)
  have E2 := Lib.hid (fun w => level_same (dbStep_ok hs hx.time hq) w)
  rw [← hn] at E1
  have CN := Lib.hid (fun w => dbnew_any m c n w hc hn)
  have RN := Lib.hid (fun w => rdbnew_any m c n w hc hn)
  have CC := Lib.hid (fun w => dbcheck_any m c w hc)
  have RC := Lib.hid (fun w => rdbcheck_any m c w hc)
  have CS := Lib.hid (fun w => dbstep_any m s x.time x.size x.pre y q w hm hs hx.time hzs hq)
  have RS := Lib.hid (fun w => rdbstep_any m s x.time x.size x.pre y q w hm hs hx.time hzs hq)
  clear hm hs hx hc hn hq hzs
  obtain ⟨k, a, r, p, b, x'⟩ := m
  obtain ⟨s0, s1, s2, sb⟩ := s
  obtain ⟨xt, xs, xp⟩ := x
  obtain ⟨n0, n1, n2, nb⟩ := n
  obtain ⟨y0, y1, y2, yb⟩ := y
  simp only [mtC, lvC] at CN RN CC RC CS RS E1 E2
  show Calls Try.prog 3 #[.agg #[.int .i64 k, .bool a, .int .u64 (r : Nat), .int .u64 (p : Nat), .int .u64 (b : Nat), .int .u64 (x' : Nat)], .agg #[.int .u64 (s0 : Nat), .int .u64 (s1 : Nat), .int .u64 (s2 : Nat), .bool sb], .agg #[.int .u64 (xt : Nat), .int .i64 xs, .int .i64 xp]] w _
  go_enter Try.func3, Try.ntmps3
  have K0 := Lib.hid (KV.three w 24 26 28 [.int .i64 k, .bool a, .int .u64 (r : Nat), .int .u64 (p : Nat), .int .u64 (b : Nat), .int .u64 (x' : Nat)] [.int .u64 (s0 : Nat), .int .u64 (s1 : Nat), .int .u64 (s2 : Nat), .bool sb] [.int .u64 (xt : Nat), .int .i64 xs, .int .i64 xp])
  have m0 := (K0.out.at 0 rfl).get 0
  have m1 := (K0.out.at 0 rfl).get 1
  have m2 := (K0.out.at 0 rfl).get 2
  have m3 := (K0.out.at 0 rfl).get 3
  have m4 := (K0.out.at 0 rfl).get 4
  have m5 := (K0.out.at 0 rfl).get 5
  simp at m0 m1 m2 m3 m4 m5
  go_wp2_with fail
  refine (CN.out _).mono ?_
  rintro e w1 ⟨rfl, b1⟩
  have K1 := Lib.hid ((K0.out.below b1).new 26 [.int .u64 (n0 : Nat), .int .u64 (n1 : Nat), .int .u64 (n2 : Nat), .bool nb])
  clear b1 K0 m0 m1 m2 m3 m4 m5
  have m0 := (K1.out.at 0 rfl).get 0
  have m1 := (K1.out.at 0 rfl).get 1
  have m2 := (K1.out.at 0 rfl).get 2
  have m3 := (K1.out.at 0 rfl).get 3
  have m4 := (K1.out.at 0 rfl).get 4
  have m5 := (K1.out.at 0 rfl).get 5
  simp at m0 m1 m2 m3 m4 m5
  go_wp2_with fail
  refine (RN.out _).mono ?_
  rintro e w2 ⟨rfl, b2⟩
  have K2 := Lib.hid ((K1.out.below b2).new 26 [.int .u64 (n0 : Nat), .int .u64 (n1 : Nat), .int .u64 (n2 : Nat), .bool nb])
  clear b2 K1 m0 m1 m2 m3 m4 m5
  have m0 := (K2.out.at 0 rfl).get 0
  have m1 := (K2.out.at 0 rfl).get 1
  have m2 := (K2.out.at 0 rfl).get 2
  have m3 := (K2.out.at 0 rfl).get 3
  have m4 := (K2.out.at 0 rfl).get 4
  have m5 := (K2.out.at 0 rfl).get 5
  simp at m0 m1 m2 m3 m4 m5
  have v0 := (K2.out.at 1 rfl).get 0
  have v1 := (K2.out.at 1 rfl).get 1
  have v2 := (K2.out.at 1 rfl).get 2
  have v3 := (K2.out.at 1 rfl).get 3
  simp at v0 v1 v2 v3
  have u0 := (K2.out.at 2 rfl).get 0
  have u1 := (K2.out.at 2 rfl).get 1
  have u2 := (K2.out.at 2 rfl).get 2
  simp at u0 u1 u2
  go_wp2_with fail
  refine (CS.out _).mono ?_
  rintro e w3 ⟨rfl, b3⟩
  have K3 := Lib.hid ((K2.out.below b3).new 26 [.int .u64 (y0 : Nat), .int .u64 (y1 : Nat), .int .u64 (y2 : Nat), .bool yb])
  clear b3 K2 m0 m1 m2 m3 m4 m5 v0 v1 v2 v3 u0 u1 u2
  have m0 := (K3.out.at 0 rfl).get 0
  have m1 := (K3.out.at 0 rfl).get 1
  have m2 := (K3.out.at 0 rfl).get 2
  have m3 := (K3.out.at 0 rfl).get 3
  have m4 := (K3.out.at 0 rfl).get 4
  have m5 := (K3.out.at 0 rfl).get 5
  simp at m0 m1 m2 m3 m4 m5
  have v0 := (K3.out.at 1 rfl).get 0
  have v1 := (K3.out.at 1 rfl).get 1
  have v2 := (K3.out.at 1 rfl).get 2
  have v3 := (K3.out.at 1 rfl).get 3
  simp at v0 v1 v2 v3
  have u0 := (K3.out.at 2 rfl).get 0
  have u1 := (K3.out.at 2 rfl).get 1
  have u2 := (K3.out.at 2 rfl).get 2
  simp at u0 u1 u2
  go_wp2_with fail
  refine (RS.out _).mono ?_
  rintro e w4 ⟨rfl, b4⟩
  have K4 := Lib.hid ((K3.out.below b4).new 26 [.int .u64 (y0 : Nat), .int .u64 (y1 : Nat), .int .u64 (y2 : Nat), .bool yb])
  clear b4 K3 m0 m1 m2 m3 m4 m5 v0 v1 v2 v3 u0 u1 u2
  go_upto_region 5 with fail
  generalize w1.heap.size = g1 at *
  generalize w2.heap.size = g2 at *
  generalize w3.heap.size = g3 at *
  generalize w4.heap.size = g4 at *
  generalize w4.alloc (.cells #[.int .u64 (y0 : Nat), .int .u64 (y1 : Nat), .int .u64 (y2 : Nat), .bool yb] 26) = W4 at *
  have e1 := E1.out
  have e2 := E2.out
  refine wp_quiet_kv (C := KV w [(24, w.heap.size, [.int .i64 k, .bool a, .int .u64 (r : Nat), .int .u64 (p : Nat), .int .u64 (b : Nat), .int .u64 (x' : Nat)]), (26, w.heap.size + 1, [.int .u64 (s0 : Nat), .int .u64 (s1 : Nat), .int .u64 (s2 : Nat), .bool sb]), (28, w.heap.size + 2, [.int .u64 (xt : Nat), .int .i64 xs, .int .i64 xp]), (26, g1, [.int .u64 (n0 : Nat), .int .u64 (n1 : Nat), .int .u64 (n2 : Nat), .bool nb]), (26, g2, [.int .u64 (n0 : Nat), .int .u64 (n1 : Nat), .int .u64 (n2 : Nat), .bool nb]), (26, g3, [.int .u64 (y0 : Nat), .int .u64 (y1 : Nat), .int .u64 (y2 : Nat), .bool yb]), (26, g4, [.int .u64 (y0 : Nat), .int .u64 (y1 : Nat), .int .u64 (y2 : Nat), .bool yb])]) (by kernel_rfl) (by kernel_rfl) K4.out.drew ?_
  repeat (first
    | go_big_quiet_skip
    | (go_big_quiet_want; apply Exists.intro; refine ⟨fun w' hw' => (by first | exact quietAt_part (off := 0) (vs := [.int .i64 k, .bool a, .int .u64 (r : Nat), .int .u64 (p : Nat), .int .u64 (b : Nat), .int .u64 (x' : Nat)]) rfl rfl tymeter (hw'.at 0 rfl) rfl rfl | exact quietAt_part (off := 0) (vs := [.int .u64 (n0 : Nat), .int .u64 (n1 : Nat), .int .u64 (n2 : Nat), .bool nb]) rfl rfl tylevel (hw'.at 3 rfl) rfl rfl | exact quietAt_part (off := 0) (vs := [.int .u64 (n0 : Nat), .int .u64 (n1 : Nat), .int .u64 (n2 : Nat), .bool nb]) rfl rfl tylevel (hw'.at 4 rfl) rfl rfl | exact quietAt_part (off := 0) (vs := [.int .u64 (y0 : Nat), .int .u64 (y1 : Nat), .int .u64 (y2 : Nat), .bool yb]) rfl rfl tylevel (hw'.at 5 rfl) rfl rfl | exact quietAt_part (off := 0) (vs := [.int .u64 (y0 : Nat), .int .u64 (y1 : Nat), .int .u64 (y2 : Nat), .bool yb]) rfl rfl tylevel (hw'.at 6 rfl) rfl rfl | exact quietAt_eql rfl rfl rfl guard_level e1 | exact quietAt_eql rfl rfl rfl guard_level e2 | fail), ?_⟩; simp only [Act.put, List.setIfInBounds_toArray, List.set_cons_zero, List.set_cons_succ]; go_big_quiet_on)
    | (go_big_quiet_want; go_big_quiet_op; go_big_quiet_on)
    | (go_big_quiet_want; go_big_quiet_op; apply Exists.intro; refine ⟨fun w' hw' => (by first | (with_reducible refine (live27 w').mono ?_; rintro e w'' ⟨rfl, hb⟩; exact ⟨rfl, hw'.below hb⟩) | (with_reducible refine (CC.out w').mono ?_; rintro e w'' ⟨rfl, hb⟩; exact ⟨rfl, hw'.below hb⟩) | (with_reducible refine (RC.out w').mono ?_; rintro e w'' ⟨rfl, hb⟩; exact ⟨rfl, hw'.below hb⟩) | fail), ?_⟩; go_big_quiet_on)
    | (go_big_quiet_want; go_big_quiet_op; apply Exists.intro; refine ⟨fun w' hw' => rfl, ?_⟩; go_big_quiet_on))
  refine wpQuiet_nil ?_
  intro w1 hw1
  go_wp2_with fail
  go_ret
  exact ⟨by first | rfl | simp, hw1.bel⟩
set_option maxRecDepth 10000 in
set_option maxHeartbeats 6400000 in
theorem walk_DoubleRuns (m : Mt) (A : Option Addr) (n cap : Nat) (L : List Ak) (w : World) (hm : MtOk m) (hR : AkRow w A n L) (hn : n ≤ 5864062014801) (hcap : n ≤ cap) :
    Calls Try.prog 4 #[.agg (mtC m).toArray, .slice A n cap] w fun e w' => e = .returned (.bool true) ∧ Below w.heap.size w w' := by
  obtain ⟨c, hc⟩ : ∃ c, c = dbCheck m := ⟨_, rfl⟩
  obtain ⟨f, hf⟩ : ∃ f, f = dbNew m := ⟨_, rfl⟩
  have hfok := dbNew_ok m
  rw [← hf] at hfok
  have CN := Lib.hid (fun w => dbnew_any m c f w hc hf)
  obtain ⟨m', hm'⟩ : ∃ v, v = m := ⟨_, rfl⟩
  rw [← hm'] at hm
  have HM := Lib.hid hm
  obtain ⟨k, a, r, p, b, x⟩ := m
  have HM' : Hid (m' = ⟨k, a, r, p, b, x⟩) := hm'
  obtain ⟨f0, f1, f2, fb⟩ := f
  simp only [mtC, lvC] at CN
  have HF := Lib.hid hfok
  clear hm hm' hf hc hfok
  show Calls Try.prog 4 #[.agg #[.int .i64 k, .bool a, .int .u64 (r : Nat), .int .u64 (p : Nat), .int .u64 (b : Nat), .int .u64 (x : Nat)], .slice A n cap] w _
  by_cases hbad : c ≠ 0 ∨ 200 < n
  · have live := Lib.hid live27
    by_cases hc0 : c = 0
    · have h200 : (200 : Int) < (n : Int) := by
        have := hbad.resolve_left (fun h => h hc0)
        omega
      subst hc0
      clear hbad hR hn hcap HM HM' HF
      go_enter Try.func4, Try.ntmps4
      have K0 := Lib.hid (KV.one w 24 [.int .i64 k, .bool a, .int .u64 (r : Nat), .int .u64 (p : Nat), .int .u64 (b : Nat), .int .u64 (x : Nat)])
      have m0 := (K0.out.at 0 rfl).get 0
      have m1 := (K0.out.at 0 rfl).get 1
      have m2 := (K0.out.at 0 rfl).get 2
      have m3 := (K0.out.at 0 rfl).get 3
      have m4 := (K0.out.at 0 rfl).get 4
      have m5 := (K0.out.at 0 rfl).get 5
      simp at m0 m1 m2 m3 m4 m5
      go_wp2_with fail
      refine (CN.out _).mono ?_
      rintro e w1 ⟨rfl, b1⟩
      have K1 := Lib.hid ((K0.out.below b1).new 26 [.int .u64 (f0 : Nat), .int .u64 (f1 : Nat), .int .u64 (f2 : Nat), .bool fb])
      clear b1 K0 m0 m1 m2 m3 m4 m5
      go_wp2_with fail
      refine (live.out _).mono ?_
      rintro e w2 ⟨rfl, b2⟩
      have K2 := Lib.hid ((K1.out.below b2))
      clear b2 K1 
      go_wp2_with fail
      go_ret
      exact ⟨rfl, K2.out.bel⟩
    · have h1 : (c != 0) = true := by rw [bne_iff_ne]; exact hc0
      clear hbad hR hn hcap HM HM' HF hc0
      go_enter Try.func4, Try.ntmps4
      have K0 := Lib.hid (KV.one w 24 [.int .i64 k, .bool a, .int .u64 (r : Nat), .int .u64 (p : Nat), .int .u64 (b : Nat), .int .u64 (x : Nat)])
      have m0 := (K0.out.at 0 rfl).get 0
      have m1 := (K0.out.at 0 rfl).get 1
      have m2 := (K0.out.at 0 rfl).get 2
      have m3 := (K0.out.at 0 rfl).get 3
      have m4 := (K0.out.at 0 rfl).get 4
      have m5 := (K0.out.at 0 rfl).get 5
      simp at m0 m1 m2 m3 m4 m5
      go_wp2_with fail
      refine (CN.out _).mono ?_
      rintro e w1 ⟨rfl, b1⟩
      have K1 := Lib.hid ((K0.out.below b1).new 26 [.int .u64 (f0 : Nat), .int .u64 (f1 : Nat), .int .u64 (f2 : Nat), .bool fb])
      clear b1 K0 m0 m1 m2 m3 m4 m5
      go_wp2_with fail
      refine (live.out _).mono ?_
      rintro e w2 ⟨rfl, b2⟩
      have K2 := Lib.hid ((K1.out.below b2))
      clear b2 K1 
      go_wp2_with fail
      go_ret
      exact ⟨rfl, K2.out.bel⟩
  · have hc0 : c = 0 := Classical.not_not.1 fun h => hbad (.inl h)
    have h200 : ¬ (200 : Int) < (n : Int) := fun h => hbad (.inr (by omega))
    subst hc0
    have HN : Hid (n ≤ 200) := by show n ≤ 200; omega
    have HR := Lib.hid hR
    clear hbad hR hn hcap
    go_enter Try.func4, Try.ntmps4
    have K0 := Lib.hid (KV.one w 24 [.int .i64 k, .bool a, .int .u64 (r : Nat), .int .u64 (p : Nat), .int .u64 (b : Nat), .int .u64 (x : Nat)])
    have m0 := (K0.out.at 0 rfl).get 0
    have m1 := (K0.out.at 0 rfl).get 1
    have m2 := (K0.out.at 0 rfl).get 2
    have m3 := (K0.out.at 0 rfl).get 3
    have m4 := (K0.out.at 0 rfl).get 4
    have m5 := (K0.out.at 0 rfl).get 5
    simp at m0 m1 m2 m3 m4 m5
    go_wp2_with fail
    refine (CN.out _).mono ?_
    rintro e w1 ⟨rfl, b1⟩
    have K1 := Lib.hid ((K0.out.below b1).new 26 [.int .u64 (f0 : Nat), .int .u64 (f1 : Nat), .int .u64 (f2 : Nat), .bool fb])
    clear b1 K0 m0 m1 m2 m3 m4 m5
    go_upto_region 4 with fail
    clear h200
    generalize w1.heap.size = g5 at *
    generalize w1.alloc (.cells #[.int .u64 (f0 : Nat), .int .u64 (f1 : Nat), .int .u64 (f2 : Nat), .bool fb] 26) = W1 at *
    have v0 := (K1.out.at 1 rfl).get 0
    have v1 := (K1.out.at 1 rfl).get 1
    have v2 := (K1.out.at 1 rfl).get 2
    have v3 := (K1.out.at 1 rfl).get 3
    simp at v0 v1 v2 v3
    have K2 := Lib.hid (K1.out.new 26 [.int .u64 (f0 : Nat), .int .u64 (f1 : Nat), .int .u64 (f2 : Nat), .bool fb])
    go_upto_region 6 with fail
    clear K1 v0 v1 v2 v3
    generalize W1.heap.size = g7 at *
    generalize W1.alloc (.cells #[.int .u64 (f0 : Nat), .int .u64 (f1 : Nat), .int .u64 (f2 : Nat), .bool fb] 26) = W2 at *
    go_loopw [8] (fun i wr => ∃ (k' : Nat) (s : Lv), i = .int .i64 (k' : Nat) ∧ Hid (k' ≤ n) ∧ Hid (LvOk s) ∧ Hid (KV w [(24, w.heap.size, [.int .i64 k, .bool a, .int .u64 (r : Nat), .int .u64 (p : Nat), .int .u64 (b : Nat), .int .u64 (x : Nat)]), (26, g5, lvC s), (26, g7, lvC s)] wr)) (fun i _ => n - (intOf i).toNat)
    case atStart => exact ⟨0, ⟨f0, f1, f2, fb⟩, rfl, Nat.zero_le _, HF, K2.out⟩
    case round =>
      clear K2
      obtain ⟨i, s, rfl, HI, HS, K1⟩ := hrel
      by_cases hlt : i < n
      · obtain ⟨bl, oo, rfl, hbl, hcs⟩ := HR.out.addr (by omega)
        obtain ⟨h0, h1, h2⟩ := hcs i hlt
        have hak := HR.out.get hlt
        obtain ⟨⟨z0, z1, z2⟩, hz⟩ : ∃ v, v = L.getD i ak0 := ⟨_, rfl⟩
        rw [← hz] at h0 h1 h2 hak
        dsimp only at h0 h1 h2
        have HB : Hid (bl < w.heap.size) := hbl
        have HC0 := Lib.hid h0
        have HC1 := Lib.hid h1
        have HC2 := Lib.hid h2
        obtain ⟨y, q, hq⟩ : ∃ y q, dbStep m' s z0 z1 z2 = (y, q) := ⟨_, _, rfl⟩
        have hyok := dbStep_ok HS.out hak.time hq
        have HY := Lib.hid hyok
        have CS := Lib.hid (fun w => dbstep_any m' s z0 z1 z2 y q w HM.out HS.out hak.time hak.size.2 hq)
        have RS := Lib.hid (fun w => rdbstep_any m' s z0 z1 z2 y q w HM.out HS.out hak.time hak.size.2 hq)
        have E := Lib.hid (fun w => level_same hyok w)
        rw [HM'.out] at CS RS
        obtain ⟨s0, s1, s2, sb⟩ := s
        obtain ⟨y0, y1, y2, yb⟩ := y
        simp only [mtC, lvC] at CS RS E K1
        have hlti : (i : Int) < (n : Int) := Int.ofNat_lt.2 hlt
        have hstep : wrap64 ((i : Int) + 1) = ((i + 1 : Nat) : Int) := by
          have := HN.out
          unfold wrap64
          omega
        have HLT : Hid (i < n) := hlt
        clear hlt hbl hcs h0 h1 h2 hak hz hq hyok
        go_upto_region 9 with fail
        refine wp_region_put (C0 := KV w [(24, w.heap.size, [.int .i64 k, .bool a, .int .u64 (r : Nat), .int .u64 (p : Nat), .int .u64 (b : Nat), .int .u64 (x : Nat)]), (26, g5, [.int .u64 (s0 : Nat), .int .u64 (s1 : Nat), .int .u64 (s2 : Nat), .bool sb]), (26, g7, [.int .u64 (s0 : Nat), .int .u64 (s1 : Nat), .int .u64 (s2 : Nat), .bool sb])]) (C1 := KV w [(24, w.heap.size, [.int .i64 k, .bool a, .int .u64 (r : Nat), .int .u64 (p : Nat), .int .u64 (b : Nat), .int .u64 (x : Nat)]), (26, g5, [.int .u64 (y0 : Nat), .int .u64 (y1 : Nat), .int .u64 (y2 : Nat), .bool yb]), (26, g7, [.int .u64 (s0 : Nat), .int .u64 (s1 : Nat), .int .u64 (s2 : Nat), .bool sb])]) [some (.agg #[.int .i64 k, .bool a, .int .u64 (r : Nat), .int .u64 (p : Nat), .int .u64 (b : Nat), .int .u64 (x : Nat)]), some (.agg #[.int .u64 (s0 : Nat), .int .u64 (s1 : Nat), .int .u64 (s2 : Nat), .bool sb]), some (.slice (some ⟨bl, oo, none⟩) n cap), some (.int .i64 (i : Int)), some (.pointer (some ⟨bl, oo + i * 3, none⟩)), some (.pointer (some ⟨bl, oo + i * 3, none⟩)), some (.int .u64 (z0 : Nat)), some (.slice (some ⟨bl, oo, none⟩) n cap), some (.int .i64 (i : Int)), some (.pointer (some ⟨bl, oo + i * 3, none⟩)), some (.pointer (some ⟨bl, oo + i * 3 + 1, none⟩)), some (.int .i64 z1), some (.slice (some ⟨bl, oo, none⟩) n cap), some (.int .i64 (i : Int)), some (.pointer (some ⟨bl, oo + i * 3, none⟩)), some (.pointer (some ⟨bl, oo + i * 3 + 2, none⟩)), some (.int .i64 z2), some (.tuple #[.agg #[.int .u64 (y0 : Nat), .int .u64 (y1 : Nat), .int .u64 (y2 : Nat), .bool yb], .int .i64 q]), some (.tuple #[.agg #[.int .u64 (y0 : Nat), .int .u64 (y1 : Nat), .int .u64 (y2 : Nat), .bool yb], .int .i64 q]), some (.agg #[.int .u64 (y0 : Nat), .int .u64 (y1 : Nat), .int .u64 (y2 : Nat), .bool yb]), some (.int .i64 q), none, some (.int .i64 q)] 21 [0, 1, 2, 3, 4, 5, 6, 7, 8, 9, 10, 11, 12, 13, 14, 15, 16, 17, 18, 19] (by kernel_rfl) (by kernel_rfl) K1.out.drew ?_ (fun W9 hW9 => ?_)
        · clear K1
          refine putWalk_quiet rfl (fun W hw' => quietAt_part (off := 0) (vs := [.int .i64 k, .bool a, .int .u64 (r : Nat), .int .u64 (p : Nat), .int .u64 (b : Nat), .int .u64 (x : Nat)]) rfl rfl tymeter (hw'.at 0 rfl) rfl rfl) (fun hna => absurd hna (by decide)) ?_
          simp only [Act.put, List.setIfInBounds_toArray, List.set_cons_zero, List.set_cons_succ]
          refine putWalk_quiet rfl (fun W hw' => quietAt_part (off := 0) (vs := [.int .u64 (s0 : Nat), .int .u64 (s1 : Nat), .int .u64 (s2 : Nat), .bool sb]) rfl rfl tylevel (hw'.at 1 rfl) rfl rfl) (fun hna => absurd hna (by decide)) ?_
          simp only [Act.put, List.setIfInBounds_toArray, List.set_cons_zero, List.set_cons_succ]
          refine putWalk_quiet rfl (fun W hw' => quietAt_run rfl) (fun hna => absurd hna (by decide)) ?_
          simp only [Act.put, List.setIfInBounds_toArray, List.set_cons_zero, List.set_cons_succ]
          refine putWalk_quiet rfl (fun W hw' => quietAt_run rfl) (fun hna => absurd hna (by decide)) ?_
          simp only [Act.put, List.setIfInBounds_toArray, List.set_cons_zero, List.set_cons_succ]
          refine putWalk_quiet rfl (fun W hw' => quietAt_run (by simp [go_sem, hlti])) (fun hna => absurd hna (by decide)) ?_
          simp only [Act.put, List.setIfInBounds_toArray, List.set_cons_zero, List.set_cons_succ]
          refine putWalk_quiet rfl (fun W hw' => quietAt_run (by simp [go_sem])) (fun hna => absurd hna (by decide)) ?_
          simp only [Act.put, List.setIfInBounds_toArray, List.set_cons_zero, List.set_cons_succ]
          refine putWalk_quiet rfl (fun W hw' => quietAt_far rfl rfl one_u64 ((hw'.bel.cell (p := ⟨bl, oo + i * 3, none⟩) HB.out).trans HC0.out)) (fun hna => absurd hna (by decide)) ?_
          simp only [Act.put, List.setIfInBounds_toArray, List.set_cons_zero, List.set_cons_succ]
          refine putWalk_quiet rfl (fun W hw' => quietAt_run rfl) (fun hna => absurd hna (by decide)) ?_
          simp only [Act.put, List.setIfInBounds_toArray, List.set_cons_zero, List.set_cons_succ]
          refine putWalk_quiet rfl (fun W hw' => quietAt_run rfl) (fun hna => absurd hna (by decide)) ?_
          simp only [Act.put, List.setIfInBounds_toArray, List.set_cons_zero, List.set_cons_succ]
          refine putWalk_quiet rfl (fun W hw' => quietAt_run (by simp [go_sem, hlti])) (fun hna => absurd hna (by decide)) ?_
          simp only [Act.put, List.setIfInBounds_toArray, List.set_cons_zero, List.set_cons_succ]
          refine putWalk_quiet rfl (fun W hw' => quietAt_run (by simp [go_sem])) (fun hna => absurd hna (by decide)) ?_
          simp only [Act.put, List.setIfInBounds_toArray, List.set_cons_zero, List.set_cons_succ]
          refine putWalk_quiet rfl (fun W hw' => quietAt_far rfl rfl one_int ((hw'.bel.cell (p := ⟨bl, oo + i * 3 + 1, none⟩) HB.out).trans HC1.out)) (fun hna => absurd hna (by decide)) ?_
          simp only [Act.put, List.setIfInBounds_toArray, List.set_cons_zero, List.set_cons_succ]
          refine putWalk_quiet rfl (fun W hw' => quietAt_run rfl) (fun hna => absurd hna (by decide)) ?_
          simp only [Act.put, List.setIfInBounds_toArray, List.set_cons_zero, List.set_cons_succ]
          refine putWalk_quiet rfl (fun W hw' => quietAt_run rfl) (fun hna => absurd hna (by decide)) ?_
          simp only [Act.put, List.setIfInBounds_toArray, List.set_cons_zero, List.set_cons_succ]
          refine putWalk_quiet rfl (fun W hw' => quietAt_run (by simp [go_sem, hlti])) (fun hna => absurd hna (by decide)) ?_
          simp only [Act.put, List.setIfInBounds_toArray, List.set_cons_zero, List.set_cons_succ]
          refine putWalk_quiet rfl (fun W hw' => quietAt_run (by simp [go_sem])) (fun hna => absurd hna (by decide)) ?_
          simp only [Act.put, List.setIfInBounds_toArray, List.set_cons_zero, List.set_cons_succ]
          refine putWalk_quiet rfl (fun W hw' => quietAt_far rfl rfl one_int ((hw'.bel.cell (p := ⟨bl, oo + i * 3 + 2, none⟩) HB.out).trans HC2.out)) (fun hna => absurd hna (by decide)) ?_
          simp only [Act.put, List.setIfInBounds_toArray, List.set_cons_zero, List.set_cons_succ]
          refine putWalk_quiet rfl (fun W hw' => quietAt_call (f := 8) (args := #[.agg #[.int .i64 k, .bool a, .int .u64 (r : Nat), .int .u64 (p : Nat), .int .u64 (b : Nat), .int .u64 (x : Nat)], .agg #[.int .u64 (s0 : Nat), .int .u64 (s1 : Nat), .int .u64 (s2 : Nat), .bool sb], .int .u64 (z0 : Nat), .int .i64 z1, .int .i64 z2]) (by simp [go_sem]) ((CS.out W).mono fun e w'' h => ⟨h.1, hw'.below h.2⟩)) (fun hna => absurd hna (by decide)) ?_
          simp only [Act.put, List.setIfInBounds_toArray, List.set_cons_zero, List.set_cons_succ]
          refine putWalk_quiet rfl (fun W hw' => quietAt_run rfl) (fun hna => absurd hna (by decide)) ?_
          simp only [Act.put, List.setIfInBounds_toArray, List.set_cons_zero, List.set_cons_succ]
          refine putWalk_quiet rfl (fun W hw' => quietAt_run (by simp [go_sem])) (fun hna => absurd hna (by decide)) ?_
          simp only [Act.put, List.setIfInBounds_toArray, List.set_cons_zero, List.set_cons_succ]
          refine putWalk_quiet rfl (fun W hw' => quietAt_run (by simp [go_sem])) (fun hna => fun W hw' => quietAt_run (by simp [go_sem])) ?_
          simp only [Act.put, List.setIfInBounds_toArray, List.set_cons_zero, List.set_cons_succ]
          refine putWalk_put rfl (put_store 1 rfl rfl rfl rfl tylevel rfl rfl (by simp [Value.oneCell'])) ?_
          simp only [Act.put]
          refine putWalk_quiet rfl (fun W hw' => quietAt_run rfl) (fun hna => fun W hw' => quietAt_run rfl) ?_
          trivial
        · simp only [List.length_cons, List.length_nil, lexAct, pval, toK, List.map_cons, List.map_nil, List.getElem?_cons_zero, List.getElem?_cons_succ, Option.bind_some, Act.put, List.setIfInBounds_toArray, List.set_cons_zero, List.set_cons_succ]
          have K2 := Lib.hid hW9
          clear hW9 K1
          go_upto_region 10 with fail
          refine wp_region_put (C0 := KV w [(24, w.heap.size, [.int .i64 k, .bool a, .int .u64 (r : Nat), .int .u64 (p : Nat), .int .u64 (b : Nat), .int .u64 (x : Nat)]), (26, g5, [.int .u64 (y0 : Nat), .int .u64 (y1 : Nat), .int .u64 (y2 : Nat), .bool yb]), (26, g7, [.int .u64 (s0 : Nat), .int .u64 (s1 : Nat), .int .u64 (s2 : Nat), .bool sb])]) (C1 := KV w [(24, w.heap.size, [.int .i64 k, .bool a, .int .u64 (r : Nat), .int .u64 (p : Nat), .int .u64 (b : Nat), .int .u64 (x : Nat)]), (26, g5, [.int .u64 (y0 : Nat), .int .u64 (y1 : Nat), .int .u64 (y2 : Nat), .bool yb]), (26, g7, [.int .u64 (y0 : Nat), .int .u64 (y1 : Nat), .int .u64 (y2 : Nat), .bool yb])]) [some (.agg #[.int .i64 k, .bool a, .int .u64 (r : Nat), .int .u64 (p : Nat), .int .u64 (b : Nat), .int .u64 (x : Nat)]), some (.agg #[.int .u64 (s0 : Nat), .int .u64 (s1 : Nat), .int .u64 (s2 : Nat), .bool sb]), some (.slice (some ⟨bl, oo, none⟩) n cap), some (.int .i64 (i : Int)), some (.pointer (some ⟨bl, oo + i * 3, none⟩)), some (.pointer (some ⟨bl, oo + i * 3, none⟩)), some (.int .u64 (z0 : Nat)), some (.slice (some ⟨bl, oo, none⟩) n cap), some (.int .i64 (i : Int)), some (.pointer (some ⟨bl, oo + i * 3, none⟩)), some (.pointer (some ⟨bl, oo + i * 3 + 1, none⟩)), some (.int .i64 z1), some (.slice (some ⟨bl, oo, none⟩) n cap), some (.int .i64 (i : Int)), some (.pointer (some ⟨bl, oo + i * 3, none⟩)), some (.pointer (some ⟨bl, oo + i * 3 + 2, none⟩)), some (.int .i64 z2), some (.tuple #[.agg #[.int .u64 (y0 : Nat), .int .u64 (y1 : Nat), .int .u64 (y2 : Nat), .bool yb], .int .i64 q]), some (.tuple #[.agg #[.int .u64 (y0 : Nat), .int .u64 (y1 : Nat), .int .u64 (y2 : Nat), .bool yb], .int .i64 q]), some (.agg #[.int .u64 (y0 : Nat), .int .u64 (y1 : Nat), .int .u64 (y2 : Nat), .bool yb]), some (.int .i64 q), none, some (.int .i64 q)] 21 [0, 1, 2, 3, 4, 5, 6, 7, 8, 9, 10, 11, 12, 13, 14, 15, 16, 17, 18, 19] (by kernel_rfl) (by kernel_rfl) K2.out.drew ?_ (fun W10 hW10 => ?_)
          · clear K2
            refine putWalk_quiet rfl (fun W hw' => quietAt_part (off := 0) (vs := [.int .i64 k, .bool a, .int .u64 (r : Nat), .int .u64 (p : Nat), .int .u64 (b : Nat), .int .u64 (x : Nat)]) rfl rfl tymeter (hw'.at 0 rfl) rfl rfl) (fun hna => absurd hna (by decide)) ?_
            simp only [Act.put, List.setIfInBounds_toArray, List.set_cons_zero, List.set_cons_succ]
            refine putWalk_quiet rfl (fun W hw' => quietAt_part (off := 0) (vs := [.int .u64 (s0 : Nat), .int .u64 (s1 : Nat), .int .u64 (s2 : Nat), .bool sb]) rfl rfl tylevel (hw'.at 2 rfl) rfl rfl) (fun hna => absurd hna (by decide)) ?_
            simp only [Act.put, List.setIfInBounds_toArray, List.set_cons_zero, List.set_cons_succ]
            refine putWalk_quiet rfl (fun W hw' => quietAt_run rfl) (fun hna => absurd hna (by decide)) ?_
            simp only [Act.put, List.setIfInBounds_toArray, List.set_cons_zero, List.set_cons_succ]
            refine putWalk_quiet rfl (fun W hw' => quietAt_run rfl) (fun hna => absurd hna (by decide)) ?_
            simp only [Act.put, List.setIfInBounds_toArray, List.set_cons_zero, List.set_cons_succ]
            refine putWalk_quiet rfl (fun W hw' => quietAt_run (by simp [go_sem, hlti])) (fun hna => absurd hna (by decide)) ?_
            simp only [Act.put, List.setIfInBounds_toArray, List.set_cons_zero, List.set_cons_succ]
            refine putWalk_quiet rfl (fun W hw' => quietAt_run (by simp [go_sem])) (fun hna => absurd hna (by decide)) ?_
            simp only [Act.put, List.setIfInBounds_toArray, List.set_cons_zero, List.set_cons_succ]
            refine putWalk_quiet rfl (fun W hw' => quietAt_far rfl rfl one_u64 ((hw'.bel.cell (p := ⟨bl, oo + i * 3, none⟩) HB.out).trans HC0.out)) (fun hna => absurd hna (by decide)) ?_
            simp only [Act.put, List.setIfInBounds_toArray, List.set_cons_zero, List.set_cons_succ]
            refine putWalk_quiet rfl (fun W hw' => quietAt_run rfl) (fun hna => absurd hna (by decide)) ?_
            simp only [Act.put, List.setIfInBounds_toArray, List.set_cons_zero, List.set_cons_succ]
            refine putWalk_quiet rfl (fun W hw' => quietAt_run rfl) (fun hna => absurd hna (by decide)) ?_
            simp only [Act.put, List.setIfInBounds_toArray, List.set_cons_zero, List.set_cons_succ]
            refine putWalk_quiet rfl (fun W hw' => quietAt_run (by simp [go_sem, hlti])) (fun hna => absurd hna (by decide)) ?_
            simp only [Act.put, List.setIfInBounds_toArray, List.set_cons_zero, List.set_cons_succ]
            refine putWalk_quiet rfl (fun W hw' => quietAt_run (by simp [go_sem])) (fun hna => absurd hna (by decide)) ?_
            simp only [Act.put, List.setIfInBounds_toArray, List.set_cons_zero, List.set_cons_succ]
            refine putWalk_quiet rfl (fun W hw' => quietAt_far rfl rfl one_int ((hw'.bel.cell (p := ⟨bl, oo + i * 3 + 1, none⟩) HB.out).trans HC1.out)) (fun hna => absurd hna (by decide)) ?_
            simp only [Act.put, List.setIfInBounds_toArray, List.set_cons_zero, List.set_cons_succ]
            refine putWalk_quiet rfl (fun W hw' => quietAt_run rfl) (fun hna => absurd hna (by decide)) ?_
            simp only [Act.put, List.setIfInBounds_toArray, List.set_cons_zero, List.set_cons_succ]
            refine putWalk_quiet rfl (fun W hw' => quietAt_run rfl) (fun hna => absurd hna (by decide)) ?_
            simp only [Act.put, List.setIfInBounds_toArray, List.set_cons_zero, List.set_cons_succ]
            refine putWalk_quiet rfl (fun W hw' => quietAt_run (by simp [go_sem, hlti])) (fun hna => absurd hna (by decide)) ?_
            simp only [Act.put, List.setIfInBounds_toArray, List.set_cons_zero, List.set_cons_succ]
            refine putWalk_quiet rfl (fun W hw' => quietAt_run (by simp [go_sem])) (fun hna => absurd hna (by decide)) ?_
            simp only [Act.put, List.setIfInBounds_toArray, List.set_cons_zero, List.set_cons_succ]
            refine putWalk_quiet rfl (fun W hw' => quietAt_far rfl rfl one_int ((hw'.bel.cell (p := ⟨bl, oo + i * 3 + 2, none⟩) HB.out).trans HC2.out)) (fun hna => absurd hna (by decide)) ?_
            simp only [Act.put, List.setIfInBounds_toArray, List.set_cons_zero, List.set_cons_succ]
            refine putWalk_quiet rfl (fun W hw' => quietAt_call (f := 9) (args := #[.agg #[.int .i64 k, .bool a, .int .u64 (r : Nat), .int .u64 (p : Nat), .int .u64 (b : Nat), .int .u64 (x : Nat)], .agg #[.int .u64 (s0 : Nat), .int .u64 (s1 : Nat), .int .u64 (s2 : Nat), .bool sb], .int .u64 (z0 : Nat), .int .i64 z1, .int .i64 z2]) (by simp [go_sem]) ((RS.out W).mono fun e w'' h => ⟨h.1, hw'.below h.2⟩)) (fun hna => absurd hna (by decide)) ?_
            simp only [Act.put, List.setIfInBounds_toArray, List.set_cons_zero, List.set_cons_succ]
            refine putWalk_quiet rfl (fun W hw' => quietAt_run rfl) (fun hna => absurd hna (by decide)) ?_
            simp only [Act.put, List.setIfInBounds_toArray, List.set_cons_zero, List.set_cons_succ]
            refine putWalk_quiet rfl (fun W hw' => quietAt_run (by simp [go_sem])) (fun hna => absurd hna (by decide)) ?_
            simp only [Act.put, List.setIfInBounds_toArray, List.set_cons_zero, List.set_cons_succ]
            refine putWalk_quiet rfl (fun W hw' => quietAt_run (by simp [go_sem])) (fun hna => fun W hw' => quietAt_run (by simp [go_sem])) ?_
            simp only [Act.put, List.setIfInBounds_toArray, List.set_cons_zero, List.set_cons_succ]
            refine putWalk_put rfl (put_store 2 rfl rfl rfl rfl tylevel rfl rfl (by simp [Value.oneCell'])) ?_
            simp only [Act.put]
            refine putWalk_quiet rfl (fun W hw' => quietAt_run rfl) (fun hna => fun W hw' => quietAt_run rfl) ?_
            trivial
          · simp only [List.length_cons, List.length_nil, lexAct, pval, toK, List.map_cons, List.map_nil, List.getElem?_cons_zero, List.getElem?_cons_succ, Option.bind_some, Act.put, List.setIfInBounds_toArray, List.set_cons_zero, List.set_cons_succ]
            have K3 := Lib.hid hW10
            clear hW10 K2
            have e1 := E.out
            have v0 := (K3.out.at 1 rfl).get 0
            have v1 := (K3.out.at 1 rfl).get 1
            have v2 := (K3.out.at 1 rfl).get 2
            have v3 := (K3.out.at 1 rfl).get 3
            simp at v0 v1 v2 v3
            have u0 := (K3.out.at 2 rfl).get 0
            have u1 := (K3.out.at 2 rfl).get 1
            have u2 := (K3.out.at 2 rfl).get 2
            have u3 := (K3.out.at 2 rfl).get 3
            simp at u0 u1 u2 u3
            go_wp2_with fail
            rw [show (i : Int) + 1 = ((i + 1 : Nat) : Int) from rfl]
            clear v0 v1 v2 v3 u0 u1 u2 u3
            go_roundw
            case rel => exact ⟨i + 1, ⟨y0, y1, y2, yb⟩, rfl, HLT.out, HY, K3.out⟩
            case measure => exact dbl_meas HLT.out
      · have hge : i = n := by have := HI.out; omega
        subst hge
        clear hlt
        go_wp2_with fail
        refine (live27 _).mono ?_
        rintro e w9 ⟨rfl, b9⟩
        have K2 := Lib.hid (K1.out.below b9)
        clear b9 K1
        go_wp2_with fail
        go_ret
        exact ⟨rfl, K2.out.bel⟩
end Go.Proofs.Ytdeehkhdmohalaa
