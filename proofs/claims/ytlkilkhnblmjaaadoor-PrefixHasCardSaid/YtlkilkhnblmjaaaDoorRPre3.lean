/-
  The contract of the document's Check of layer 7.
-/
import Derived.Test.YtlkilkhnblmjaaaDoorRPre2
import Derived.Test.YtlkilkhnblmjaaaDoorPre7
namespace Go.Proofs.YtlkilkhnblmjaaaDoor
open Go.RowKit
set_option linter.unusedVariables false

theorem rmost_ok {V : Int} (h : V = 4 ∨ V = 6) : rmost V = psz V := by rcases h with rfl | rfl <;> rfl
theorem pfits_cases (V n : Int) : (¬ (V = 4 ∨ V = 6) ∧ pfits V n = 4) ∨ ((V = 4 ∨ V = 6) ∧ (n < 0 ∨ psz V < n) ∧ pfits V n = 1) ∨ ((V = 4 ∨ V = 6) ∧ 0 ≤ n ∧ n ≤ psz V ∧ pfits V n = 0) := by
  unfold pfits
  by_cases h : V = 4 ∨ V = 6
  · right
    rw [if_neg (by omega)]
    by_cases h2 : n < 0 ∨ psz V < n
    · left; rw [if_pos h2]; exact ⟨h, h2, rfl⟩
    · right; rw [if_neg h2]; exact ⟨h, by omega, by omega, rfl⟩
  · left
    rw [if_pos (by omega)]
    exact ⟨h, rfl⟩
set_option maxRecDepth 10000 in
set_option maxHeartbeats 3200000 in
theorem rcheck_any (V : Int) (X : List Nat) (n : Int) (w : World) (hX : Adr X) : Calls Tryd.prog 12 #[.agg (pcells V X n).toArray] w fun e w' => e = .returned (.int .i64 (pcheck V X n)) ∧ Below w.heap.size w w' := by
  have HP := Lib.hid (pc_parts V n hX.len)
  have hs16 : (bcells X).length = 16 := by rw [bcells_length, hX.len]
  obtain ⟨P, hP⟩ : ∃ P, P = pcells V X n := ⟨_, rfl⟩
  rw [← hP] at HP ⊢
  have K0 : Hid (KV w [(24, w.heap.size, P)] (w.alloc (.cells P.toArray 24))) := KV.one w _ _
  have CM := Lib.hid (fun w => rmost_any V w)
  clear hP
  rcases pfits_cases V n with ⟨h, hf⟩ | ⟨h, h2, hf⟩ | ⟨h, h2, h3, hf⟩
  · have HF : Hid (pcheck V X n = 4) := by show _ = _; unfold pcheck; rw [hf]; rfl
    have hm : rmost V = -1 := by unfold rmost; rw [if_neg (by omega), if_neg (by omega)]
    rw [hm] at CM
    clear h hf hm hX
    go_enter Tryd.func12, Tryd.ntmps12
    go_upto_region 1 with fail
    refine wp_region_lit ?_
    refine wpList_quiet_all (C := KV w [(24, w.heap.size, P)]) K0.out ?_
    repeat (first
      | go_big_quiet_skip
      | (go_big_quiet_want; apply Exists.intro; refine ⟨fun w' hw' => (by first | exact quietAt_cell rfl rfl one_int (hw'.at 0 rfl) HP.out.v | exact quietAt_cell rfl rfl one_int (hw'.at 0 rfl) HP.out.n | exact quietAt_part rfl rfl ty16 (hw'.at 0 rfl) HP.out.addr hs16 | fail), ?_⟩; simp only [Act.put, List.setIfInBounds_toArray, List.set_cons_zero, List.set_cons_succ]; go_big_quiet_on)
      | (go_big_quiet_want; go_big_quiet_op; go_big_quiet_on)
      | (go_big_quiet_want; go_big_quiet_op; apply Exists.intro; refine ⟨fun w' hw' => (by first | (with_reducible refine (CM.out w').mono ?_; rintro e w'' ⟨rfl, hb⟩; exact ⟨rfl, hw'.below hb⟩) | fail), ?_⟩; go_big_quiet_on)
      | (go_big_quiet_want; go_big_quiet_op; apply Exists.intro; refine ⟨fun w' hw' => rfl, ?_⟩; go_big_quiet_on))
    refine wpQuiet_nil ?_
    intro w1 hw1
    have BB := Lib.hid hw1.bel
    clear hw1 K0
    go_wp2_with fail
    go_ret
    exact ⟨by rw [HF.out]; rfl, BB.out⟩
  · have HF : Hid (pcheck V X n = 1) := by show _ = _; unfold pcheck; rw [hf]; rfl
    rw [rmost_ok h] at CM
    obtain ⟨M, hM, hM1⟩ := psz_nat V
    rw [hM] at CM h2
    have hM0 : ¬ ((M : Int) < 0) := by omega
    clear h hf hM hM1 hX
    by_cases hn : n < 0
    · clear h2
      go_enter Tryd.func12, Tryd.ntmps12
      go_upto_region 1 with fail
      refine wp_region_lit ?_
      refine wpList_quiet_all (C := KV w [(24, w.heap.size, P)]) K0.out ?_
      repeat (first
        | go_big_quiet_skip
        | (go_big_quiet_want; apply Exists.intro; refine ⟨fun w' hw' => (by first | exact quietAt_cell rfl rfl one_int (hw'.at 0 rfl) HP.out.v | exact quietAt_cell rfl rfl one_int (hw'.at 0 rfl) HP.out.n | exact quietAt_part rfl rfl ty16 (hw'.at 0 rfl) HP.out.addr hs16 | fail), ?_⟩; simp only [Act.put, List.setIfInBounds_toArray, List.set_cons_zero, List.set_cons_succ]; go_big_quiet_on)
        | (go_big_quiet_want; go_big_quiet_op; go_big_quiet_on)
        | (go_big_quiet_want; go_big_quiet_op; apply Exists.intro; refine ⟨fun w' hw' => (by first | (with_reducible refine (CM.out w').mono ?_; rintro e w'' ⟨rfl, hb⟩; exact ⟨rfl, hw'.below hb⟩) | fail), ?_⟩; go_big_quiet_on)
        | (go_big_quiet_want; go_big_quiet_op; apply Exists.intro; refine ⟨fun w' hw' => rfl, ?_⟩; go_big_quiet_on))
      refine wpQuiet_nil ?_
      intro w1 hw1
      go_upto_region 3 with fail
      refine wp_quiet_kv (C := KV w [(24, w.heap.size, P)]) (by kernel_rfl) (by kernel_rfl) hw1.drew ?_
      repeat (first
        | go_big_quiet_skip
        | (go_big_quiet_want; apply Exists.intro; refine ⟨fun w' hw' => (by first | exact quietAt_cell rfl rfl one_int (hw'.at 0 rfl) HP.out.v | exact quietAt_cell rfl rfl one_int (hw'.at 0 rfl) HP.out.n | exact quietAt_part rfl rfl ty16 (hw'.at 0 rfl) HP.out.addr hs16 | fail), ?_⟩; simp only [Act.put, List.setIfInBounds_toArray, List.set_cons_zero, List.set_cons_succ]; go_big_quiet_on)
        | (go_big_quiet_want; go_big_quiet_op; go_big_quiet_on)
        | (go_big_quiet_want; go_big_quiet_op; apply Exists.intro; refine ⟨fun w' hw' => (by first | (with_reducible refine (CM.out w').mono ?_; rintro e w'' ⟨rfl, hb⟩; exact ⟨rfl, hw'.below hb⟩) | fail), ?_⟩; go_big_quiet_on)
        | (go_big_quiet_want; go_big_quiet_op; apply Exists.intro; refine ⟨fun w' hw' => rfl, ?_⟩; go_big_quiet_on))
      refine wpQuiet_nil ?_
      intro w2 hw2
      have BB := Lib.hid hw2.bel
      clear hw1 hw2 K0
      go_wp2_with fail
      go_ret
      exact ⟨by rw [HF.out]; rfl, BB.out⟩
    · have hMn : (M : Int) < n := by omega
      clear h2
      go_enter Tryd.func12, Tryd.ntmps12
      go_upto_region 1 with fail
      refine wp_region_lit ?_
      refine wpList_quiet_all (C := KV w [(24, w.heap.size, P)]) K0.out ?_
      repeat (first
        | go_big_quiet_skip
        | (go_big_quiet_want; apply Exists.intro; refine ⟨fun w' hw' => (by first | exact quietAt_cell rfl rfl one_int (hw'.at 0 rfl) HP.out.v | exact quietAt_cell rfl rfl one_int (hw'.at 0 rfl) HP.out.n | exact quietAt_part rfl rfl ty16 (hw'.at 0 rfl) HP.out.addr hs16 | fail), ?_⟩; simp only [Act.put, List.setIfInBounds_toArray, List.set_cons_zero, List.set_cons_succ]; go_big_quiet_on)
        | (go_big_quiet_want; go_big_quiet_op; go_big_quiet_on)
        | (go_big_quiet_want; go_big_quiet_op; apply Exists.intro; refine ⟨fun w' hw' => (by first | (with_reducible refine (CM.out w').mono ?_; rintro e w'' ⟨rfl, hb⟩; exact ⟨rfl, hw'.below hb⟩) | fail), ?_⟩; go_big_quiet_on)
        | (go_big_quiet_want; go_big_quiet_op; apply Exists.intro; refine ⟨fun w' hw' => rfl, ?_⟩; go_big_quiet_on))
      refine wpQuiet_nil ?_
      intro w1 hw1
      go_upto_region 3 with fail
      refine wp_quiet_kv (C := KV w [(24, w.heap.size, P)]) (by kernel_rfl) (by kernel_rfl) hw1.drew ?_
      repeat (first
        | go_big_quiet_skip
        | (go_big_quiet_want; apply Exists.intro; refine ⟨fun w' hw' => (by first | exact quietAt_cell rfl rfl one_int (hw'.at 0 rfl) HP.out.v | exact quietAt_cell rfl rfl one_int (hw'.at 0 rfl) HP.out.n | exact quietAt_part rfl rfl ty16 (hw'.at 0 rfl) HP.out.addr hs16 | fail), ?_⟩; simp only [Act.put, List.setIfInBounds_toArray, List.set_cons_zero, List.set_cons_succ]; go_big_quiet_on)
        | (go_big_quiet_want; go_big_quiet_op; go_big_quiet_on)
        | (go_big_quiet_want; go_big_quiet_op; apply Exists.intro; refine ⟨fun w' hw' => (by first | (with_reducible refine (CM.out w').mono ?_; rintro e w'' ⟨rfl, hb⟩; exact ⟨rfl, hw'.below hb⟩) | fail), ?_⟩; go_big_quiet_on)
        | (go_big_quiet_want; go_big_quiet_op; apply Exists.intro; refine ⟨fun w' hw' => rfl, ?_⟩; go_big_quiet_on))
      refine wpQuiet_nil ?_
      intro w2 hw2
      have BB := Lib.hid hw2.bel
      clear hw1 hw2 K0
      go_wp2_with fail
      go_ret
      exact ⟨by rw [HF.out]; rfl, BB.out⟩
  · rw [rmost_ok h] at CM
    obtain ⟨m, hm⟩ := Int.eq_ofNat_of_zero_le h2
    obtain ⟨M, hM, hM1⟩ := psz_nat V
    rw [hM] at CM h3
    have hM0 : ¬ ((M : Int) < 0) := by omega
    have hn0 : ¬ (n < 0) := by omega
    have hMn : ¬ ((M : Int) < n) := by omega
    have CK : Hid (∀ w, Calls Tryd.prog 26 #[.agg (bcells X).toArray, .int .i64 n] w fun e w' => e = .returned (.agg (bcells (keepB X m)).toArray) ∧ Below w.heap.size w w') := fun w => by
      rw [hm]; exact rfront_any X m w hX (by omega)
    have HF : Hid (pcheck V X n = if keepB X m = X then 0 else 5) := by show _ = _; unfold pcheck; rw [if_neg (by rw [hf]; simp), hm]; rfl
    have hq := Lib.hid (same_nat Tryd.underlying22 (keepB X m) X (keepB_len X m) hX.len)
    clear hf h h2 h3 hm hM hM1 hX
    generalize keepB X m = K at *
    by_cases hk : K = X
    · have HF : Hid (pcheck V X n = 0) := by show _ = _; rw [HF.out, if_pos hk]
      rw [decide_eq_true hk] at hq
      clear hk
      go_enter Tryd.func12, Tryd.ntmps12
      go_upto_region 1 with fail
      refine wp_region_lit ?_
      refine wpList_quiet_all (C := KV w [(24, w.heap.size, P)]) K0.out ?_
      repeat (first
        | go_big_quiet_skip
        | (go_big_quiet_want; apply Exists.intro; refine ⟨fun w' hw' => (by first | exact quietAt_cell rfl rfl one_int (hw'.at 0 rfl) HP.out.v | exact quietAt_cell rfl rfl one_int (hw'.at 0 rfl) HP.out.n | exact quietAt_part rfl rfl ty16 (hw'.at 0 rfl) HP.out.addr hs16 | fail), ?_⟩; simp only [Act.put, List.setIfInBounds_toArray, List.set_cons_zero, List.set_cons_succ]; go_big_quiet_on)
        | (go_big_quiet_want; go_big_quiet_op; go_big_quiet_on)
        | (go_big_quiet_want; go_big_quiet_op; apply Exists.intro; refine ⟨fun w' hw' => (by first | (with_reducible refine (CM.out w').mono ?_; rintro e w'' ⟨rfl, hb⟩; exact ⟨rfl, hw'.below hb⟩) | fail), ?_⟩; go_big_quiet_on)
        | (go_big_quiet_want; go_big_quiet_op; apply Exists.intro; refine ⟨fun w' hw' => rfl, ?_⟩; go_big_quiet_on))
      refine wpQuiet_nil ?_
      intro w1 hw1
      go_upto_region 3 with fail
      refine wp_quiet_kv (C := KV w [(24, w.heap.size, P)]) (by kernel_rfl) (by kernel_rfl) hw1.drew ?_
      repeat (first
        | go_big_quiet_skip
        | (go_big_quiet_want; apply Exists.intro; refine ⟨fun w' hw' => (by first | exact quietAt_cell rfl rfl one_int (hw'.at 0 rfl) HP.out.v | exact quietAt_cell rfl rfl one_int (hw'.at 0 rfl) HP.out.n | exact quietAt_part rfl rfl ty16 (hw'.at 0 rfl) HP.out.addr hs16 | fail), ?_⟩; simp only [Act.put, List.setIfInBounds_toArray, List.set_cons_zero, List.set_cons_succ]; go_big_quiet_on)
        | (go_big_quiet_want; go_big_quiet_op; go_big_quiet_on)
        | (go_big_quiet_want; go_big_quiet_op; apply Exists.intro; refine ⟨fun w' hw' => (by first | (with_reducible refine (CM.out w').mono ?_; rintro e w'' ⟨rfl, hb⟩; exact ⟨rfl, hw'.below hb⟩) | fail), ?_⟩; go_big_quiet_on)
        | (go_big_quiet_want; go_big_quiet_op; apply Exists.intro; refine ⟨fun w' hw' => rfl, ?_⟩; go_big_quiet_on))
      refine wpQuiet_nil ?_
      intro w2 hw2
      go_upto_region 5 with fail
      refine wp_quiet_kv (C := KV w [(24, w.heap.size, P)]) (by kernel_rfl) (by kernel_rfl) hw2.drew ?_
      repeat (first
        | go_big_quiet_skip
        | (go_big_quiet_want; apply Exists.intro; refine ⟨fun w' hw' => (by first | exact quietAt_cell rfl rfl one_int (hw'.at 0 rfl) HP.out.v | exact quietAt_cell rfl rfl one_int (hw'.at 0 rfl) HP.out.n | exact quietAt_part rfl rfl ty16 (hw'.at 0 rfl) HP.out.addr hs16 | exact quietAt_nn rfl rfl rfl guard16 hq.out | exact quietAt_ne rfl rfl rfl guard16 hq.out | fail), ?_⟩; simp only [Act.put, List.setIfInBounds_toArray, List.set_cons_zero, List.set_cons_succ]; go_big_quiet_on)
        | (go_big_quiet_want; go_big_quiet_op; go_big_quiet_on)
        | (go_big_quiet_want; go_big_quiet_op; apply Exists.intro; refine ⟨fun w' hw' => (by first | (with_reducible refine (CK.out w').mono ?_; rintro e w'' ⟨rfl, hb⟩; exact ⟨rfl, hw'.below hb⟩) | fail), ?_⟩; go_big_quiet_on)
        | (go_big_quiet_want; go_big_quiet_op; apply Exists.intro; refine ⟨fun w' hw' => rfl, ?_⟩; go_big_quiet_on))
      refine wpQuiet_nil ?_
      intro w3 hw3
      have BB := Lib.hid hw3.bel
      clear hw1 hw2 hw3 K0
      go_wp2_with fail
      go_ret
      exact ⟨by rw [HF.out]; rfl, BB.out⟩
    · have HF : Hid (pcheck V X n = 5) := by show _ = _; rw [HF.out, if_neg hk]
      rw [decide_eq_false hk] at hq
      clear hk
      go_enter Tryd.func12, Tryd.ntmps12
      go_upto_region 1 with fail
      refine wp_region_lit ?_
      refine wpList_quiet_all (C := KV w [(24, w.heap.size, P)]) K0.out ?_
      repeat (first
        | go_big_quiet_skip
        | (go_big_quiet_want; apply Exists.intro; refine ⟨fun w' hw' => (by first | exact quietAt_cell rfl rfl one_int (hw'.at 0 rfl) HP.out.v | exact quietAt_cell rfl rfl one_int (hw'.at 0 rfl) HP.out.n | exact quietAt_part rfl rfl ty16 (hw'.at 0 rfl) HP.out.addr hs16 | fail), ?_⟩; simp only [Act.put, List.setIfInBounds_toArray, List.set_cons_zero, List.set_cons_succ]; go_big_quiet_on)
        | (go_big_quiet_want; go_big_quiet_op; go_big_quiet_on)
        | (go_big_quiet_want; go_big_quiet_op; apply Exists.intro; refine ⟨fun w' hw' => (by first | (with_reducible refine (CM.out w').mono ?_; rintro e w'' ⟨rfl, hb⟩; exact ⟨rfl, hw'.below hb⟩) | fail), ?_⟩; go_big_quiet_on)
        | (go_big_quiet_want; go_big_quiet_op; apply Exists.intro; refine ⟨fun w' hw' => rfl, ?_⟩; go_big_quiet_on))
      refine wpQuiet_nil ?_
      intro w1 hw1
      go_upto_region 3 with fail
      refine wp_quiet_kv (C := KV w [(24, w.heap.size, P)]) (by kernel_rfl) (by kernel_rfl) hw1.drew ?_
      repeat (first
        | go_big_quiet_skip
        | (go_big_quiet_want; apply Exists.intro; refine ⟨fun w' hw' => (by first | exact quietAt_cell rfl rfl one_int (hw'.at 0 rfl) HP.out.v | exact quietAt_cell rfl rfl one_int (hw'.at 0 rfl) HP.out.n | exact quietAt_part rfl rfl ty16 (hw'.at 0 rfl) HP.out.addr hs16 | fail), ?_⟩; simp only [Act.put, List.setIfInBounds_toArray, List.set_cons_zero, List.set_cons_succ]; go_big_quiet_on)
        | (go_big_quiet_want; go_big_quiet_op; go_big_quiet_on)
        | (go_big_quiet_want; go_big_quiet_op; apply Exists.intro; refine ⟨fun w' hw' => (by first | (with_reducible refine (CM.out w').mono ?_; rintro e w'' ⟨rfl, hb⟩; exact ⟨rfl, hw'.below hb⟩) | fail), ?_⟩; go_big_quiet_on)
        | (go_big_quiet_want; go_big_quiet_op; apply Exists.intro; refine ⟨fun w' hw' => rfl, ?_⟩; go_big_quiet_on))
      refine wpQuiet_nil ?_
      intro w2 hw2
      go_upto_region 5 with fail
      refine wp_quiet_kv (C := KV w [(24, w.heap.size, P)]) (by kernel_rfl) (by kernel_rfl) hw2.drew ?_
      repeat (first
        | go_big_quiet_skip
        | (go_big_quiet_want; apply Exists.intro; refine ⟨fun w' hw' => (by first | exact quietAt_cell rfl rfl one_int (hw'.at 0 rfl) HP.out.v | exact quietAt_cell rfl rfl one_int (hw'.at 0 rfl) HP.out.n | exact quietAt_part rfl rfl ty16 (hw'.at 0 rfl) HP.out.addr hs16 | exact quietAt_nn rfl rfl rfl guard16 hq.out | exact quietAt_ne rfl rfl rfl guard16 hq.out | fail), ?_⟩; simp only [Act.put, List.setIfInBounds_toArray, List.set_cons_zero, List.set_cons_succ]; go_big_quiet_on)
        | (go_big_quiet_want; go_big_quiet_op; go_big_quiet_on)
        | (go_big_quiet_want; go_big_quiet_op; apply Exists.intro; refine ⟨fun w' hw' => (by first | (with_reducible refine (CK.out w').mono ?_; rintro e w'' ⟨rfl, hb⟩; exact ⟨rfl, hw'.below hb⟩) | fail), ?_⟩; go_big_quiet_on)
        | (go_big_quiet_want; go_big_quiet_op; apply Exists.intro; refine ⟨fun w' hw' => rfl, ?_⟩; go_big_quiet_on))
      refine wpQuiet_nil ?_
      intro w3 hw3
      have BB := Lib.hid hw3.bel
      clear hw1 hw2 hw3 K0
      go_wp2_with fail
      go_ret
      exact ⟨by rw [HF.out]; rfl, BB.out⟩
end Go.Proofs.YtlkilkhnblmjaaaDoor
