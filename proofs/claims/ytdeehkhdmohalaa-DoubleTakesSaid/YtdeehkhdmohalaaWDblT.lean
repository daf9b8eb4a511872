/-
  The walk of the statement DoubleTakes.
-/
import Derived.Test.YtdeehkhdmohalaaWDbl
namespace Go.Proofs.Ytdeehkhdmohalaa
open Go.RowKit
set_option linter.unusedVariables false
attribute [local go_sem ↓] Go.wp_at_zero Go.wp_at_succ

theorem alloclevel (W : World) : (Instr.alloc 26 true (.tuple #[])).run Try.prog W = .ok (.pointer (some ⟨W.heap.size, 0, none⟩)) (W.alloc (.cells [.int .u64 0, .int .u64 0, .int .u64 0, .bool false].toArray 26)) := by
  simp [go_sem]
theorem dbt_min {a : Bool} {z c : Int} (h : sgCol a z ≤ c) (h0 : 0 ≤ c) (ha : a = true) : ¬ c < min z 2 := by
  subst ha
  unfold sgCol at h
  rw [if_pos rfl] at h
  split at h <;> omega
theorem dbt_sub {x y n : Nat} (h : y + n = x) (hx : x ≤ 18446744073709551615) : IntKind.u64.wrap ((x : Int) - (y : Int)) = (n : Int) := by rw [IntKind.wrap_u64]; omega
theorem dbt_zero (x : Nat) : IntKind.u64.wrap ((x : Int) - (x : Int)) = 0 := by rw [IntKind.wrap_u64]; omega
theorem dbt_late {l t : Nat} : ¬ rtNow l true t < l := by unfold rtNow; rw [if_pos rfl]; omega
set_option maxRecDepth 10000 in
set_option maxHeartbeats 12800000 in
theorem walk_DoubleTakes (m : Mt) (A : Option Addr) (n cap : Nat) (L : List Ak) (w : World) (hm : MtOk m) (hR : AkRow w A n L) (hn : n ≤ 5864062014801) (hcap : n ≤ cap) :
    Calls Try.prog 5 #[.agg (mtC m).toArray, .slice A n cap] w fun e w' => e = .returned (.bool true) ∧ Below w.heap.size w w' := by
  obtain ⟨c, hc⟩ : ∃ c, c = dbCheck m := ⟨_, rfl⟩
  obtain ⟨f, hf⟩ : ∃ f, f = dbNew m := ⟨_, rfl⟩
  have CN := Lib.hid (fun w => dbnew_any m c f w hc hf)
  obtain ⟨m', hm'⟩ : ∃ v, v = m := ⟨_, rfl⟩
  have live := Lib.hid live27
  by_cases hbad : c ≠ 0 ∨ 200 < n
  · obtain ⟨k, a, r, p, b, x⟩ := m
    obtain ⟨f0, f1, f2, fb⟩ := f
    simp only [mtC, lvC] at CN
    show Calls Try.prog 5 #[.agg #[.int .i64 k, .bool a, .int .u64 (r : Nat), .int .u64 (p : Nat), .int .u64 (b : Nat), .int .u64 (x : Nat)], .slice A n cap] w _
    clear hm hm' hc hf
    by_cases hc0 : c = 0
    · have h200 : (200 : Int) < (n : Int) := by
        have := hbad.resolve_left (fun h => h hc0)
        omega
      subst hc0
      clear hbad hR hn hcap
      go_enter Try.func5, Try.ntmps5
      have K0 := Lib.hid (KV.one w 24 [.int .i64 k, .bool a, .int .u64 (r : Nat), .int .u64 (p : Nat), .int .u64 (b : Nat), .int .u64 (x : Nat)])
      have m0 := (K0.out.at 0 rfl).get 0
      have m1 := (K0.out.at 0 rfl).get 1
      have m2 := (K0.out.at 0 rfl).get 2
      have m3 := (K0.out.at 0 rfl).get 3
      have m4 := (K0.out.at 0 rfl).get 4
      have m5 := (K0.out.at 0 rfl).get 5
      simp at m0 m1 m2 m3 m4 m5
      go_wp2_with fail
      refine (CN.out _).mono ?_
      rintro e w1 ⟨rfl, b1⟩
      have K1 := Lib.hid ((K0.out.below b1).new 26 [.int .u64 (f0 : Nat), .int .u64 (f1 : Nat), .int .u64 (f2 : Nat), .bool fb])
      clear b1 K0 m0 m1 m2 m3 m4 m5
      go_wp2_with fail
      refine (live.out _).mono ?_
      rintro e w2 ⟨rfl, b2⟩
      have K2 := Lib.hid ((K1.out.below b2))
      clear b2 K1 
      go_wp2_with fail
      go_ret
      exact ⟨rfl, K2.out.bel⟩
    · have h1 : (c != 0) = true := by rw [bne_iff_ne]; exact hc0
      clear hbad hR hn hcap hc0
      go_enter Try.func5, Try.ntmps5
      have K0 := Lib.hid (KV.one w 24 [.int .i64 k, .bool a, .int .u64 (r : Nat), .int .u64 (p : Nat), .int .u64 (b : Nat), .int .u64 (x : Nat)])
      have m0 := (K0.out.at 0 rfl).get 0
      have m1 := (K0.out.at 0 rfl).get 1
      have m2 := (K0.out.at 0 rfl).get 2
      have m3 := (K0.out.at 0 rfl).get 3
      have m4 := (K0.out.at 0 rfl).get 4
      have m5 := (K0.out.at 0 rfl).get 5
      simp at m0 m1 m2 m3 m4 m5
      go_wp2_with fail
      refine (CN.out _).mono ?_
      rintro e w1 ⟨rfl, b1⟩
      have K1 := Lib.hid ((K0.out.below b1).new 26 [.int .u64 (f0 : Nat), .int .u64 (f1 : Nat), .int .u64 (f2 : Nat), .bool fb])
      clear b1 K0 m0 m1 m2 m3 m4 m5
      go_wp2_with fail
      refine (live.out _).mono ?_
      rintro e w2 ⟨rfl, b2⟩
      have K2 := Lib.hid ((K1.out.below b2))
      clear b2 K1 
      go_wp2_with fail
      go_ret
      exact ⟨rfl, K2.out.bel⟩
  · have hc0 : c = 0 := Classical.not_not.1 fun h => hbad (.inl h)
    have h200 : ¬ (200 : Int) < (n : Int) := fun h => hbad (.inr (by omega))
    subst hc0
    have hok := dbCheck_ok hc.symm
    have HN : Hid (n ≤ 200) := by show n ≤ 200; omega
    have HR := Lib.hid hR
    have HC : Hid (dbCheck m' = 0) := by rw [hm']; exact hc.symm
    have HM : Hid (MtOk m') := by rw [hm']; exact hm
    obtain ⟨R, hRe⟩ : ∃ R, R = 1000000000 * m.burst := ⟨_, rfl⟩
    obtain ⟨X, hXe⟩ : ∃ X, X = 1000000000 * m.extra := ⟨_, rfl⟩
    have HRX : Hid (R = 1000000000 * m'.burst ∧ X = 1000000000 * m'.extra ∧ R ≤ 18446744073709551615 ∧ X ≤ 18446744073709551615) := by
      rw [hm']
      exact ⟨hRe, hXe, by omega, by omega⟩
    have hf2 : f = ⟨R, X, 0, false⟩ := by rw [hf, hRe, hXe]; unfold dbNew; rw [if_pos hc.symm]
    subst hf2
    obtain ⟨k, a, r, p, b, x⟩ := m
    have hk2 : k = 2 := hok.1
    subst hk2
    have HM' : Hid (m' = ⟨2, a, r, p, b, x⟩) := hm'
    simp only [mtC, lvC] at CN
    clear hbad hR hn hcap hok hc hm hm' hf hRe hXe
    show Calls Try.prog 5 #[.agg #[.int .i64 2, .bool a, .int .u64 (r : Nat), .int .u64 (p : Nat), .int .u64 (b : Nat), .int .u64 (x : Nat)], .slice A n cap] w _
    go_enter Try.func5, Try.ntmps5
    have K0 := Lib.hid (KV.one w 24 [.int .i64 2, .bool a, .int .u64 (r : Nat), .int .u64 (p : Nat), .int .u64 (b : Nat), .int .u64 (x : Nat)])
    have m0 := (K0.out.at 0 rfl).get 0
    have m1 := (K0.out.at 0 rfl).get 1
    have m2 := (K0.out.at 0 rfl).get 2
    have m3 := (K0.out.at 0 rfl).get 3
    have m4 := (K0.out.at 0 rfl).get 4
    have m5 := (K0.out.at 0 rfl).get 5
    simp at m0 m1 m2 m3 m4 m5
    go_wp2_with fail
    refine (CN.out _).mono ?_
    rintro e w1 ⟨rfl, b1⟩
    have K1 := Lib.hid ((K0.out.below b1).new 26 [.int .u64 (R : Nat), .int .u64 (X : Nat), .int .u64 0, .bool false])
    clear b1 K0 m0 m1 m2 m3 m4 m5
    go_upto_region 4 with fail
    clear h200
    generalize w1.heap.size = g5 at *
    generalize w1.alloc (.cells #[.int .u64 (R : Nat), .int .u64 (X : Nat), .int .u64 0, .bool false] 26) = W1 at *
    have v0 := (K1.out.at 1 rfl).get 0
    have v1 := (K1.out.at 1 rfl).get 1
    have v2 := (K1.out.at 1 rfl).get 2
    have v3 := (K1.out.at 1 rfl).get 3
    simp at v0 v1 v2 v3
    have K2 := Lib.hid (K1.out.new 26 [.int .u64 (R : Nat), .int .u64 (X : Nat), .int .u64 0, .bool false])
    go_upto_region 6 with fail
    clear K1 v0 v1 v2 v3
    generalize W1.heap.size = g7 at *
    generalize W1.alloc (.cells #[.int .u64 (R : Nat), .int .u64 (X : Nat), .int .u64 0, .bool false] 26) = W2 at *
    go_loopw [8] (fun i wr => ∃ (k' : Nat) (s : Lv), i = .int .i64 (k' : Nat) ∧ Hid (k' ≤ n) ∧ Hid (LvOk s ∧ s.one ≤ R ∧ s.two ≤ X) ∧ Hid (KV w [(24, w.heap.size, [.int .i64 2, .bool a, .int .u64 (r : Nat), .int .u64 (p : Nat), .int .u64 (b : Nat), .int .u64 (x : Nat)]), (26, g5, lvC s), (26, g7, [.int .u64 (R : Nat), .int .u64 (X : Nat), .int .u64 0, .bool false])] wr)) (fun i _ => n - (intOf i).toNat)
    case atStart => exact ⟨0, ⟨R, X, 0, false⟩, rfl, Nat.zero_le _, ⟨⟨HRX.out.2.2.1, HRX.out.2.2.2, Nat.zero_le _⟩, Nat.le_refl _, Nat.le_refl _⟩, K2.out⟩
    case round =>
      clear K2
      obtain ⟨i, s, rfl, HI, HS, K1⟩ := hrel
      by_cases hlt : i < n
      · obtain ⟨bl, oo, rfl, hbl, hcs⟩ := HR.out.addr (by omega)
        obtain ⟨h0, h1, h2⟩ := hcs i hlt
        have hak := HR.out.get hlt
        obtain ⟨⟨z0, z1, z2⟩, hz⟩ : ∃ v, v = L.getD i ak0 := ⟨_, rfl⟩
        rw [← hz] at h0 h1 h2 hak
        dsimp only at h0 h1 h2
        have HB : Hid (bl < w.heap.size) := hbl
        have HC0 := Lib.hid h0
        have HC1 := Lib.hid h1
        have HC2 := Lib.hid h2
        have HAK := Lib.hid hak
        have hlti : (i : Int) < (n : Int) := Int.ofNat_lt.2 hlt
        have hstep : wrap64 ((i : Int) + 1) = ((i + 1 : Nat) : Int) := by
          have := HN.out
          unfold wrap64
          omega
        have HLT : Hid (i < n) := hlt
        have hfar : wr.cell? ⟨bl, oo + i * 3 + 1, none⟩ = some (.int .i64 z1) := (K1.out.bel.cell (p := ⟨bl, oo + i * 3 + 1, none⟩) hbl).trans h1
        clear hlt hbl hcs h0 h1 h2 hak hz
        by_cases hneg : z1 < 0
        · go_wp2_with fail
          rw [show (i : Int) + 1 = ((i + 1 : Nat) : Int) from rfl]
          clear hfar
          go_roundw
          case rel => exact ⟨i + 1, s, rfl, HLT.out, HS, K1.out⟩
          case measure => exact dbl_meas HLT.out
        · go_upto_region 10 with fail
          clear hfar
          have hidle := db_idle (m := m') (s := s) z0 HC.out
          obtain ⟨cc, y0, y1, hst, hcc0, hcc2, hy0, hy1, hg0, hg1, hg2, hpre⟩ := db_takes (m := m') (s := s) (t := z0) (size := z1) (pre := z2) HC.out (Int.not_lt.1 hneg) (by rw [← HRX.out.1]; exact HS.out.2.1) (by rw [← HRX.out.2.1]; exact HS.out.2.2)
          have hlok : LvOk (dbLater m' s z0) := dbStep_ok HS.out.1 HAK.out.time hidle
          have hyok : LvOk ⟨y0, y1, (dbLater m' s z0).last, true⟩ := dbStep_ok HS.out.1 HAK.out.time hst
          obtain ⟨N, hN⟩ : ∃ N, N = bkN z1 := ⟨_, rfl⟩
          obtain ⟨t, ht⟩ : ∃ t, t = bkIs z1 := ⟨_, rfl⟩
          rw [← hN, ← ht] at hg0 hg1
          rw [← HRX.out.1] at hy0
          rw [← HRX.out.2.1] at hy1
          have hlast : s.seen = true → ¬ (dbLater m' s z0).last < s.last := fun h => by
            show ¬ rtNow s.last s.seen z0 < s.last
            rw [h]
            exact dbt_late
          have hseen : (dbLater m' s z0).seen = true := rfl
          obtain ⟨d, hd⟩ : ∃ d, d = dbLater m' s z0 := ⟨_, rfl⟩
          rw [← hd] at hst hidle hlok hyok hg0 hg1 hg2 hlast hseen
          have CI := Lib.hid (fun w => dbstep_any m' s z0 0 0 d 0 w HM.out HS.out.1 HAK.out.time (by decide) hidle)
          have CS := Lib.hid (fun w => dbstep_any m' s z0 z1 z2 ⟨y0, y1, d.last, true⟩ cc w HM.out HS.out.1 HAK.out.time HAK.out.size.2 hst)
          have CD := Lib.hid (fun w => bkneed_any z1 N t w HAK.out.size.2 hN ht)
          have hawa : a = true → ¬ cc < min z2 2 := fun h => dbt_min hpre hcc0 (by rw [HM'.out]; exact h)
          rw [HM'.out] at CI CS
          obtain ⟨s0, s1, s2, sb⟩ := s
          obtain ⟨d0, d1, d2, db⟩ := d
          dsimp only at hseen hg0 hg1 hg2 hlast hyok
          subst hseen
          simp only [mtC, lvC] at CI CS K1
          have HY : Hid (LvOk ⟨y0, y1, d2, true⟩ ∧ y0 ≤ R ∧ y1 ≤ X) := ⟨hyok, hy0, hy1⟩
          have HD : Hid (d0 ≤ 18446744073709551615 ∧ d1 ≤ 18446744073709551615) := ⟨hlok.one, hlok.two⟩
          have HG : Hid ((cc = 0 → t = true ∧ y0 + N = d0 ∧ y1 + N = d1) ∧ (cc = 1 → t = true ∧ y0 = d0 ∧ y1 + N = d1) ∧ (cc = 2 → y0 = d0 ∧ y1 = d1) ∧ (cc = 0 ∨ cc = 1 ∨ cc = 2)) := ⟨hg0, hg1, hg2, by omega⟩
          have HL : Hid (sb = true → ¬ d2 < s2) := hlast
          have HA : Hid (a = true → ¬ cc < min z2 2) := hawa
          clear hidle hst hcc0 hcc2 hy0 hy1 hg0 hg1 hg2 hpre hlok hyok hN ht hlast hd hawa
          refine wp_region_par (w := w) [.quiet (.agg #[.int .i64 2, .bool a, .int .u64 (r : Nat), .int .u64 (p : Nat), .int .u64 (b : Nat), .int .u64 (x : Nat)]), .quiet (.agg #[.int .u64 (s0 : Nat), .int .u64 (s1 : Nat), .int .u64 (s2 : Nat), .bool sb]), .quiet (.slice (some ⟨bl, oo, none⟩) n cap), .quiet (.int .i64 (i : Int)), .quiet (.pointer (some ⟨bl, oo + i * 3, none⟩)), .quiet (.pointer (some ⟨bl, oo + i * 3, none⟩)), .quiet (.int .u64 (z0 : Nat)), .quiet (.tuple #[.agg #[.int .u64 (d0 : Nat), .int .u64 (d1 : Nat), .int .u64 (d2 : Nat), .bool true], .int .i64 0]), .quiet (.tuple #[.agg #[.int .u64 (d0 : Nat), .int .u64 (d1 : Nat), .int .u64 (d2 : Nat), .bool true], .int .i64 0]), .quiet (.agg #[.int .u64 (d0 : Nat), .int .u64 (d1 : Nat), .int .u64 (d2 : Nat), .bool true]), .quiet (.int .i64 0), .alloc 26 [.int .u64 0, .int .u64 0, .int .u64 0, .bool false] (some (12, [.int .u64 (d0 : Nat), .int .u64 (d1 : Nat), .int .u64 (d2 : Nat), .bool true])), .store 11, .quiet (.int .i64 0)] [(24, w.heap.size, [.int .i64 2, .bool a, .int .u64 (r : Nat), .int .u64 (p : Nat), .int .u64 (b : Nat), .int .u64 (x : Nat)]), (26, g5, [.int .u64 (s0 : Nat), .int .u64 (s1 : Nat), .int .u64 (s2 : Nat), .bool sb]), (26, g7, [.int .u64 (R : Nat), .int .u64 (X : Nat), .int .u64 0, .bool false])] (by kernel_rfl) (by kernel_rfl) K1.out.drew (fun bb => ?_) ?_
          · clear K1
            refine pWalk_quiet rfl (fun E W hw' => quietAt_part (off := 0) (vs := [.int .i64 2, .bool a, .int .u64 (r : Nat), .int .u64 (p : Nat), .int .u64 (b : Nat), .int .u64 (x : Nat)]) rfl rfl tymeter (hw'.at 0 rfl) rfl rfl) ?_
            simp only [Act.put, List.setIfInBounds_toArray, List.set_cons_zero, List.set_cons_succ]
            refine pWalk_quiet rfl (fun E W hw' => quietAt_part (off := 0) (vs := [.int .u64 (s0 : Nat), .int .u64 (s1 : Nat), .int .u64 (s2 : Nat), .bool sb]) rfl rfl tylevel (hw'.at 1 rfl) rfl rfl) ?_
            simp only [Act.put, List.setIfInBounds_toArray, List.set_cons_zero, List.set_cons_succ]
            refine pWalk_quiet rfl (fun E W hw' => quietAt_run rfl) ?_
            simp only [Act.put, List.setIfInBounds_toArray, List.set_cons_zero, List.set_cons_succ]
            refine pWalk_quiet rfl (fun E W hw' => quietAt_run rfl) ?_
            simp only [Act.put, List.setIfInBounds_toArray, List.set_cons_zero, List.set_cons_succ]
            refine pWalk_quiet rfl (fun E W hw' => quietAt_run (by simp [go_sem, hlti])) ?_
            simp only [Act.put, List.setIfInBounds_toArray, List.set_cons_zero, List.set_cons_succ]
            refine pWalk_quiet rfl (fun E W hw' => quietAt_run (by simp [go_sem])) ?_
            simp only [Act.put, List.setIfInBounds_toArray, List.set_cons_zero, List.set_cons_succ]
            refine pWalk_quiet rfl (fun E W hw' => quietAt_far rfl rfl one_u64 ((hw'.bel.cell (p := ⟨bl, oo + i * 3, none⟩) HB.out).trans HC0.out)) ?_
            simp only [Act.put, List.setIfInBounds_toArray, List.set_cons_zero, List.set_cons_succ]
            refine pWalk_quiet rfl (fun E W hw' => quietAt_call (f := 8) (args := #[.agg #[.int .i64 2, .bool a, .int .u64 (r : Nat), .int .u64 (p : Nat), .int .u64 (b : Nat), .int .u64 (x : Nat)], .agg #[.int .u64 (s0 : Nat), .int .u64 (s1 : Nat), .int .u64 (s2 : Nat), .bool sb], .int .u64 (z0 : Nat), .int .i64 0, .int .i64 0]) (by simp [go_sem]) ((CI.out W).mono fun e w'' h => ⟨h.1, hw'.below h.2⟩)) ?_
            simp only [Act.put, List.setIfInBounds_toArray, List.set_cons_zero, List.set_cons_succ]
            refine pWalk_quiet rfl (fun E W hw' => quietAt_run rfl) ?_
            simp only [Act.put, List.setIfInBounds_toArray, List.set_cons_zero, List.set_cons_succ]
            refine pWalk_quiet rfl (fun E W hw' => quietAt_run (by simp [go_sem])) ?_
            simp only [Act.put, List.setIfInBounds_toArray, List.set_cons_zero, List.set_cons_succ]
            refine pWalk_quiet rfl (fun E W hw' => quietAt_run (by simp [go_sem])) ?_
            simp only [Act.put, List.setIfInBounds_toArray, List.set_cons_zero, List.set_cons_succ]
            refine pWalk_var rfl rfl alloclevel ?_
            simp only [Act.put, List.setIfInBounds_toArray, List.set_cons_zero, List.set_cons_succ]
            refine pWalk_put rfl rfl rfl rfl rfl tylevel rfl rfl (by simp [Value.oneCell']) ?_
            simp only [Act.put]
            refine pWalk_quiet rfl (fun E W hw' => quietAt_run rfl) ?_
            trivial
          · intro bb κ E w3 hK hB
            obtain ⟨l2, g2⟩ := hB.at_ 11 _ _ _ rfl rfl
            simp only [List.length_cons, List.length_nil] at l2
            obtain ⟨g10, e9⟩ : ∃ x, x = bb 11 := ⟨_, rfl⟩
            have K2 : Hid (KV w [(24, w.heap.size, [.int .i64 2, .bool a, .int .u64 (r : Nat), .int .u64 (p : Nat), .int .u64 (b : Nat), .int .u64 (x : Nat)]), (26, g5, [.int .u64 (s0 : Nat), .int .u64 (s1 : Nat), .int .u64 (s2 : Nat), .bool sb]), (26, g7, [.int .u64 (R : Nat), .int .u64 (X : Nat), .int .u64 0, .bool false]), (26, g10, [.int .u64 (d0 : Nat), .int .u64 (d1 : Nat), .int .u64 (d2 : Nat), .bool true])] w3) := by
              rw [e9]
              refine hK.pick [0, 1, 2, κ 11] ?_ rfl ?_
              · simp
                omega
              · intro q hq
                simp at hq
                rcases hq with rfl | rfl | rfl | rfl
                · rfl
                · rfl
                · rfl
                · exact g2
            clear l2 g2 hK hB K1
            simp only [List.length_cons, List.length_nil, lexAct, pval, List.getElem?_cons_zero, List.getElem?_cons_succ, Option.bind_some, Act.put, List.setIfInBounds_toArray, List.set_cons_zero, List.set_cons_succ]
            rw [← e9]
            clear e9
            go_upto_region 11 with fail
            refine wp_region_par (w := w) [.quiet (.agg #[.int .i64 2, .bool a, .int .u64 (r : Nat), .int .u64 (p : Nat), .int .u64 (b : Nat), .int .u64 (x : Nat)]), .quiet (.agg #[.int .u64 (s0 : Nat), .int .u64 (s1 : Nat), .int .u64 (s2 : Nat), .bool sb]), .quiet (.slice (some ⟨bl, oo, none⟩) n cap), .quiet (.int .i64 (i : Int)), .quiet (.pointer (some ⟨bl, oo + i * 3, none⟩)), .quiet (.pointer (some ⟨bl, oo + i * 3, none⟩)), .quiet (.int .u64 (z0 : Nat)), .quiet (.int .i64 z1), .quiet (.slice (some ⟨bl, oo, none⟩) n cap), .quiet (.int .i64 (i : Int)), .quiet (.pointer (some ⟨bl, oo + i * 3, none⟩)), .quiet (.pointer (some ⟨bl, oo + i * 3 + 2, none⟩)), .quiet (.int .i64 z2), .quiet (.tuple #[.agg #[.int .u64 (y0 : Nat), .int .u64 (y1 : Nat), .int .u64 (d2 : Nat), .bool true], .int .i64 cc]), .quiet (.tuple #[.agg #[.int .u64 (y0 : Nat), .int .u64 (y1 : Nat), .int .u64 (d2 : Nat), .bool true], .int .i64 cc]), .quiet (.agg #[.int .u64 (y0 : Nat), .int .u64 (y1 : Nat), .int .u64 (d2 : Nat), .bool true]), .quiet (.int .i64 cc), .alloc 26 [.int .u64 0, .int .u64 0, .int .u64 0, .bool false] (some (18, [.int .u64 (y0 : Nat), .int .u64 (y1 : Nat), .int .u64 (d2 : Nat), .bool true])), .store 17, .quiet (.int .i64 cc)] [(24, w.heap.size, [.int .i64 2, .bool a, .int .u64 (r : Nat), .int .u64 (p : Nat), .int .u64 (b : Nat), .int .u64 (x : Nat)]), (26, g5, [.int .u64 (s0 : Nat), .int .u64 (s1 : Nat), .int .u64 (s2 : Nat), .bool sb]), (26, g7, [.int .u64 (R : Nat), .int .u64 (X : Nat), .int .u64 0, .bool false]), (26, g10, [.int .u64 (d0 : Nat), .int .u64 (d1 : Nat), .int .u64 (d2 : Nat), .bool true])] (by kernel_rfl) (by kernel_rfl) K2.out.drew (fun bb => ?_) ?_
            · clear K2
              refine pWalk_quiet rfl (fun E W hw' => quietAt_part (off := 0) (vs := [.int .i64 2, .bool a, .int .u64 (r : Nat), .int .u64 (p : Nat), .int .u64 (b : Nat), .int .u64 (x : Nat)]) rfl rfl tymeter (hw'.at 0 rfl) rfl rfl) ?_
              simp only [Act.put, List.setIfInBounds_toArray, List.set_cons_zero, List.set_cons_succ]
              refine pWalk_quiet rfl (fun E W hw' => quietAt_part (off := 0) (vs := [.int .u64 (s0 : Nat), .int .u64 (s1 : Nat), .int .u64 (s2 : Nat), .bool sb]) rfl rfl tylevel (hw'.at 1 rfl) rfl rfl) ?_
              simp only [Act.put, List.setIfInBounds_toArray, List.set_cons_zero, List.set_cons_succ]
              refine pWalk_quiet rfl (fun E W hw' => quietAt_run rfl) ?_
              simp only [Act.put, List.setIfInBounds_toArray, List.set_cons_zero, List.set_cons_succ]
              refine pWalk_quiet rfl (fun E W hw' => quietAt_run rfl) ?_
              simp only [Act.put, List.setIfInBounds_toArray, List.set_cons_zero, List.set_cons_succ]
              refine pWalk_quiet rfl (fun E W hw' => quietAt_run (by simp [go_sem, hlti])) ?_
              simp only [Act.put, List.setIfInBounds_toArray, List.set_cons_zero, List.set_cons_succ]
              refine pWalk_quiet rfl (fun E W hw' => quietAt_run (by simp [go_sem])) ?_
              simp only [Act.put, List.setIfInBounds_toArray, List.set_cons_zero, List.set_cons_succ]
              refine pWalk_quiet rfl (fun E W hw' => quietAt_far rfl rfl one_u64 ((hw'.bel.cell (p := ⟨bl, oo + i * 3, none⟩) HB.out).trans HC0.out)) ?_
              simp only [Act.put, List.setIfInBounds_toArray, List.set_cons_zero, List.set_cons_succ]
              refine pWalk_quiet rfl (fun E W hw' => quietAt_run rfl) ?_
              simp only [Act.put, List.setIfInBounds_toArray, List.set_cons_zero, List.set_cons_succ]
              refine pWalk_quiet rfl (fun E W hw' => quietAt_run rfl) ?_
              simp only [Act.put, List.setIfInBounds_toArray, List.set_cons_zero, List.set_cons_succ]
              refine pWalk_quiet rfl (fun E W hw' => quietAt_run rfl) ?_
              simp only [Act.put, List.setIfInBounds_toArray, List.set_cons_zero, List.set_cons_succ]
              refine pWalk_quiet rfl (fun E W hw' => quietAt_run (by simp [go_sem, hlti])) ?_
              simp only [Act.put, List.setIfInBounds_toArray, List.set_cons_zero, List.set_cons_succ]
              refine pWalk_quiet rfl (fun E W hw' => quietAt_run (by simp [go_sem])) ?_
              simp only [Act.put, List.setIfInBounds_toArray, List.set_cons_zero, List.set_cons_succ]
              refine pWalk_quiet rfl (fun E W hw' => quietAt_far rfl rfl one_int ((hw'.bel.cell (p := ⟨bl, oo + i * 3 + 2, none⟩) HB.out).trans HC2.out)) ?_
              simp only [Act.put, List.setIfInBounds_toArray, List.set_cons_zero, List.set_cons_succ]
              refine pWalk_quiet rfl (fun E W hw' => quietAt_call (f := 8) (args := #[.agg #[.int .i64 2, .bool a, .int .u64 (r : Nat), .int .u64 (p : Nat), .int .u64 (b : Nat), .int .u64 (x : Nat)], .agg #[.int .u64 (s0 : Nat), .int .u64 (s1 : Nat), .int .u64 (s2 : Nat), .bool sb], .int .u64 (z0 : Nat), .int .i64 z1, .int .i64 z2]) (by simp [go_sem]) ((CS.out W).mono fun e w'' h => ⟨h.1, hw'.below h.2⟩)) ?_
              simp only [Act.put, List.setIfInBounds_toArray, List.set_cons_zero, List.set_cons_succ]
              refine pWalk_quiet rfl (fun E W hw' => quietAt_run rfl) ?_
              simp only [Act.put, List.setIfInBounds_toArray, List.set_cons_zero, List.set_cons_succ]
              refine pWalk_quiet rfl (fun E W hw' => quietAt_run (by simp [go_sem])) ?_
              simp only [Act.put, List.setIfInBounds_toArray, List.set_cons_zero, List.set_cons_succ]
              refine pWalk_quiet rfl (fun E W hw' => quietAt_run (by simp [go_sem])) ?_
              simp only [Act.put, List.setIfInBounds_toArray, List.set_cons_zero, List.set_cons_succ]
              refine pWalk_var rfl rfl alloclevel ?_
              simp only [Act.put, List.setIfInBounds_toArray, List.set_cons_zero, List.set_cons_succ]
              refine pWalk_put rfl rfl rfl rfl rfl tylevel rfl rfl (by simp [Value.oneCell']) ?_
              simp only [Act.put]
              refine pWalk_quiet rfl (fun E W hw' => quietAt_run rfl) ?_
              trivial
            · intro bb κ E w4 hK hB
              obtain ⟨l2, g2⟩ := hB.at_ 17 _ _ _ rfl rfl
              simp only [List.length_cons, List.length_nil] at l2
              obtain ⟨g12, e9⟩ : ∃ x, x = bb 17 := ⟨_, rfl⟩
              have K3 : Hid (KV w [(24, w.heap.size, [.int .i64 2, .bool a, .int .u64 (r : Nat), .int .u64 (p : Nat), .int .u64 (b : Nat), .int .u64 (x : Nat)]), (26, g5, [.int .u64 (s0 : Nat), .int .u64 (s1 : Nat), .int .u64 (s2 : Nat), .bool sb]), (26, g7, [.int .u64 (R : Nat), .int .u64 (X : Nat), .int .u64 0, .bool false]), (26, g10, [.int .u64 (d0 : Nat), .int .u64 (d1 : Nat), .int .u64 (d2 : Nat), .bool true]), (26, g12, [.int .u64 (y0 : Nat), .int .u64 (y1 : Nat), .int .u64 (d2 : Nat), .bool true])] w4) := by
                rw [e9]
                refine hK.pick [0, 1, 2, 3, κ 17] ?_ rfl ?_
                · simp
                  omega
                · intro q hq
                  simp at hq
                  rcases hq with rfl | rfl | rfl | rfl | rfl
                  · rfl
                  · rfl
                  · rfl
                  · rfl
                  · exact g2
              clear l2 g2 hK hB K2
              simp only [List.length_cons, List.length_nil, lexAct, pval, List.getElem?_cons_zero, List.getElem?_cons_succ, Option.bind_some, Act.put, List.setIfInBounds_toArray, List.set_cons_zero, List.set_cons_succ]
              rw [← e9]
              clear e9
              go_wp2_with fail
              refine (CD.out _).mono ?_
              rintro e w5 ⟨rfl, b5⟩
              have K4 := Lib.hid (K3.out.below b5)
              clear b5 K3
              go_upto_region 13 with fail
              go_cut [134] from 78 to 134 (fun v wx => v = .bool false ∧ wx = w5)
              case first =>
                have m0 := (K4.out.at 0 rfl).get 0
                have m1 := (K4.out.at 0 rfl).get 1
                have m2 := (K4.out.at 0 rfl).get 2
                have m3 := (K4.out.at 0 rfl).get 3
                have m4 := (K4.out.at 0 rfl).get 4
                have m5 := (K4.out.at 0 rfl).get 5
                simp at m0 m1 m2 m3 m4 m5
                have v0 := (K4.out.at 1 rfl).get 0
                have v1 := (K4.out.at 1 rfl).get 1
                have v2 := (K4.out.at 1 rfl).get 2
                have v3 := (K4.out.at 1 rfl).get 3
                simp at v0 v1 v2 v3
                have u0 := (K4.out.at 2 rfl).get 0
                have u1 := (K4.out.at 2 rfl).get 1
                have u2 := (K4.out.at 2 rfl).get 2
                have u3 := (K4.out.at 2 rfl).get 3
                simp at u0 u1 u2 u3
                have q0 := (K4.out.at 3 rfl).get 0
                have q1 := (K4.out.at 3 rfl).get 1
                have q2 := (K4.out.at 3 rfl).get 2
                have q3 := (K4.out.at 3 rfl).get 3
                simp at q0 q1 q2 q3
                have j0 := (K4.out.at 4 rfl).get 0
                have j1 := (K4.out.at 4 rfl).get 1
                have j2 := (K4.out.at 4 rfl).get 2
                have j3 := (K4.out.at 4 rfl).get 3
                simp at j0 j1 j2 j3
                have hfar : w5.cell? ⟨bl, oo + i * 3 + 2, none⟩ = some (.int .i64 z2) := (K4.out.bel.cell (p := ⟨bl, oo + i * 3 + 2, none⟩) HB.out).trans HC2.out
                have n1 : ¬ R < y0 := Nat.not_lt.2 HY.out.2.1
                have n2 : ¬ X < y1 := Nat.not_lt.2 HY.out.2.2
                have i1 : ¬ (R : Int) < (y0 : Int) := by omega
                have i2 : ¬ (X : Int) < (y1 : Int) := by omega
                have ht : t = false → cc = 2 := fun h => by
                  rcases HG.out.2.2.2 with h1 | h1 | h1
                  · rw [(HG.out.1 h1).1] at h; cases h
                  · rw [(HG.out.2.1 h1).1] at h; cases h
                  · exact h1
                have HT := Lib.hid ht
                clear ht
                cases sb with
                | false =>
                  cases a with
                  | false =>
                    cases t with
                    | false => (obtain rfl := HT.out rfl; go_wp2_with fail; go_meet; exact ⟨by first | rfl | exact congrArg Value.bool (decide_eq_false (Int.not_lt.2 ha)), rfl⟩)
                    | true => (go_wp2_with fail; go_meet; exact ⟨by first | rfl | exact congrArg Value.bool (decide_eq_false (Int.not_lt.2 ha)), rfl⟩)
                  | true =>
                    have ha := HA.out rfl
                    cases t with
                    | false => (obtain rfl := HT.out rfl; go_wp2_with fail; go_meet; exact ⟨by first | rfl | exact congrArg Value.bool (decide_eq_false (Int.not_lt.2 ha)), rfl⟩)
                    | true => (go_wp2_with fail; go_meet; exact ⟨by first | rfl | exact congrArg Value.bool (decide_eq_false (Int.not_lt.2 ha)), rfl⟩)
                | true =>
                  have hl := HL.out rfl
                  have hl2 : ¬ (d2 : Int) < (s2 : Int) := by omega
                  cases a with
                  | false =>
                    cases t with
                    | false => (obtain rfl := HT.out rfl; go_wp2_with fail; go_meet; exact ⟨by first | rfl | exact congrArg Value.bool (decide_eq_false (Int.not_lt.2 ha)), rfl⟩)
                    | true => (go_wp2_with fail; go_meet; exact ⟨by first | rfl | exact congrArg Value.bool (decide_eq_false (Int.not_lt.2 ha)), rfl⟩)
                  | true =>
                    have ha := HA.out rfl
                    cases t with
                    | false => (obtain rfl := HT.out rfl; go_wp2_with fail; go_meet; exact ⟨by first | rfl | exact congrArg Value.bool (decide_eq_false (Int.not_lt.2 ha)), rfl⟩)
                    | true => (go_wp2_with fail; go_meet; exact ⟨by first | rfl | exact congrArg Value.bool (decide_eq_false (Int.not_lt.2 ha)), rfl⟩)
              case rest =>
                obtain ⟨rfl, rfl⟩ := hcut
                rcases HG.out.2.2.2 with rfl | rfl | rfl
                · have hg := HG.out.1 rfl
                  have u1 := dbt_sub hg.2.1 HD.out.1
                  have u2 := dbt_sub hg.2.2 HD.out.2
                  clear hg
                  have q0 := (K4.out.at 3 rfl).get 0
                  have q1 := (K4.out.at 3 rfl).get 1
                  have q2 := (K4.out.at 3 rfl).get 2
                  have q3 := (K4.out.at 3 rfl).get 3
                  simp at q0 q1 q2 q3
                  have j0 := (K4.out.at 4 rfl).get 0
                  have j1 := (K4.out.at 4 rfl).get 1
                  have j2 := (K4.out.at 4 rfl).get 2
                  have j3 := (K4.out.at 4 rfl).get 3
                  simp at j0 j1 j2 j3
                  have v0 := (K4.out.at 1 rfl).get 0
                  have v1 := (K4.out.at 1 rfl).get 1
                  have v2 := (K4.out.at 1 rfl).get 2
                  have v3 := (K4.out.at 1 rfl).get 3
                  simp at v0 v1 v2 v3
                  have f0 := (K4.out.at 1 rfl).frozen 0
                  have f1 := (K4.out.at 1 rfl).frozen 1
                  have f2 := (K4.out.at 1 rfl).frozen 2
                  have f3 := (K4.out.at 1 rfl).frozen 3
                  have K5 := Lib.hid (K4.out.store 1 rfl [.int .u64 (y0 : Nat), .int .u64 (y1 : Nat), .int .u64 (d2 : Nat), .bool true] rfl)
                  go_wp2_with fail
                  rw [show (i : Int) + 1 = ((i + 1 : Nat) : Int) from rfl]
                  clear q0 q1 q2 q3 j0 j1 j2 j3 v0 v1 v2 v3 f0 f1 f2 f3
                  go_roundw
                  case rel => exact ⟨i + 1, ⟨y0, y1, d2, true⟩, rfl, HLT.out, HY, KV.front (M := [_, _]) K5.out⟩
                  case measure => exact dbl_meas HLT.out
                · have hg := HG.out.2.1 rfl
                  have u1 := dbt_zero d0
                  have u2 := dbt_sub hg.2.2 HD.out.2
                  obtain rfl : y0 = d0 := hg.2.1
                  clear hg
                  have q0 := (K4.out.at 3 rfl).get 0
                  have q1 := (K4.out.at 3 rfl).get 1
                  have q2 := (K4.out.at 3 rfl).get 2
                  have q3 := (K4.out.at 3 rfl).get 3
                  simp at q0 q1 q2 q3
                  have j0 := (K4.out.at 4 rfl).get 0
                  have j1 := (K4.out.at 4 rfl).get 1
                  have j2 := (K4.out.at 4 rfl).get 2
                  have j3 := (K4.out.at 4 rfl).get 3
                  simp at j0 j1 j2 j3
                  have v0 := (K4.out.at 1 rfl).get 0
                  have v1 := (K4.out.at 1 rfl).get 1
                  have v2 := (K4.out.at 1 rfl).get 2
                  have v3 := (K4.out.at 1 rfl).get 3
                  simp at v0 v1 v2 v3
                  have f0 := (K4.out.at 1 rfl).frozen 0
                  have f1 := (K4.out.at 1 rfl).frozen 1
                  have f2 := (K4.out.at 1 rfl).frozen 2
                  have f3 := (K4.out.at 1 rfl).frozen 3
                  have K5 := Lib.hid (K4.out.store 1 rfl [.int .u64 (y0 : Nat), .int .u64 (y1 : Nat), .int .u64 (d2 : Nat), .bool true] rfl)
                  go_wp2_with fail
                  rw [show (i : Int) + 1 = ((i + 1 : Nat) : Int) from rfl]
                  clear q0 q1 q2 q3 j0 j1 j2 j3 v0 v1 v2 v3 f0 f1 f2 f3
                  go_roundw
                  case rel => exact ⟨i + 1, ⟨y0, y1, d2, true⟩, rfl, HLT.out, HY, KV.front (M := [_, _]) K5.out⟩
                  case measure => exact dbl_meas HLT.out
                · have hg := HG.out.2.2.1 rfl
                  have u1 := dbt_zero d0
                  have u2 := dbt_zero d1
                  obtain ⟨rfl, rfl⟩ : y0 = d0 ∧ y1 = d1 := hg
                  have q0 := (K4.out.at 3 rfl).get 0
                  have q1 := (K4.out.at 3 rfl).get 1
                  have q2 := (K4.out.at 3 rfl).get 2
                  have q3 := (K4.out.at 3 rfl).get 3
                  simp at q0 q1 q2 q3
                  have j0 := (K4.out.at 4 rfl).get 0
                  have j1 := (K4.out.at 4 rfl).get 1
                  have j2 := (K4.out.at 4 rfl).get 2
                  have j3 := (K4.out.at 4 rfl).get 3
                  simp at j0 j1 j2 j3
                  have v0 := (K4.out.at 1 rfl).get 0
                  have v1 := (K4.out.at 1 rfl).get 1
                  have v2 := (K4.out.at 1 rfl).get 2
                  have v3 := (K4.out.at 1 rfl).get 3
                  simp at v0 v1 v2 v3
                  have f0 := (K4.out.at 1 rfl).frozen 0
                  have f1 := (K4.out.at 1 rfl).frozen 1
                  have f2 := (K4.out.at 1 rfl).frozen 2
                  have f3 := (K4.out.at 1 rfl).frozen 3
                  have K5 := Lib.hid (K4.out.store 1 rfl [.int .u64 (y0 : Nat), .int .u64 (y1 : Nat), .int .u64 (d2 : Nat), .bool true] rfl)
                  go_wp2_with fail
                  rw [show (i : Int) + 1 = ((i + 1 : Nat) : Int) from rfl]
                  clear q0 q1 q2 q3 j0 j1 j2 j3 v0 v1 v2 v3 f0 f1 f2 f3
                  go_roundw
                  case rel => exact ⟨i + 1, ⟨y0, y1, d2, true⟩, rfl, HLT.out, HY, KV.front (M := [_, _]) K5.out⟩
                  case measure => exact dbl_meas HLT.out
      · have hge : i = n := by have := HI.out; omega
        subst hge
        clear hlt
        go_wp2_with fail
        refine (live.out _).mono ?_
        rintro e w9 ⟨rfl, b9⟩
        have K2 := Lib.hid (K1.out.below b9)
        clear b9 K1
        go_wp2_with fail
        go_ret
        exact ⟨rfl, K2.out.bel⟩
end Go.Proofs.Ytdeehkhdmohalaa
