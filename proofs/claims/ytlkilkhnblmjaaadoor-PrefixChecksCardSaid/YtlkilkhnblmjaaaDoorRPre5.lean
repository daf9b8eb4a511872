/-
  The contract of the document's Make of layer 7.
-/
import Derived.Test.YtlkilkhnblmjaaaDoorRPre4
namespace Go.Proofs.YtlkilkhnblmjaaaDoor
open Go.RowKit
set_option linter.unusedVariables false

set_option maxRecDepth 10000 in
set_option maxHeartbeats 3200000 in
theorem rmake_any (v : Int) (X : List Nat) (n : Int) (w : World) (hX : Adr X) : Calls Tryd.prog 7 #[.int .i64 v, .agg (bcells X).toArray, .int .i64 n] w fun e w' => e = .returned (.tuple #[.agg (pmake v X n).toArray, .int .i64 (pfits v n)]) ∧ Below w.heap.size w w' := by
  have hs16 : (bcells X).length = 16 := by rw [bcells_length, hX.len]
  have CM := Lib.hid (fun w => rmost_any v w)
  have K0 : Hid (KV w [(22, w.heap.size, bcells X), (24, w.heap.size + 1, pcells 0 zero16 0)] ((w.alloc (.cells (bcells X).toArray 22)).alloc (.cells (pcells 0 zero16 0).toArray 24))) := KV.two w _ _ _ _
  rcases pfits_cases v n with ⟨h, hf⟩ | ⟨h, h2, hf⟩ | ⟨h, h2, h3, hf⟩
  · have HF : Hid (pmake v X n = pcells 0 zero16 0) := by show _ = _; unfold pmake; rw [if_neg (by rw [hf]; decide)]
    have hm : rmost v = -1 := by unfold rmost; rw [if_neg (by omega), if_neg (by omega)]
    rw [hm] at CM
    rw [hf]
    clear h hf hm hX
    go_enter Tryd.func7, Tryd.ntmps7
    go_upto_region 1 with fail
    refine wp_region_lit ?_
    refine wpList_quiet_all (C := KV w [(22, w.heap.size, bcells X), (24, w.heap.size + 1, pcells 0 zero16 0)]) K0.out ?_
    repeat (first
      | go_big_quiet_skip
      | (go_big_quiet_want; apply Exists.intro; refine ⟨fun w' hw' => (by first | exact quietAt_part rfl rfl ty16 (hw'.at 0 rfl) (by rw [List.drop_zero, List.take_of_length_le (Nat.le_of_eq hs16)]) hs16 | fail), ?_⟩; simp only [Act.put, List.setIfInBounds_toArray, List.set_cons_zero, List.set_cons_succ]; go_big_quiet_on)
      | (go_big_quiet_want; go_big_quiet_op; go_big_quiet_on)
      | (go_big_quiet_want; go_big_quiet_op; apply Exists.intro; refine ⟨fun w' hw' => (by first | (with_reducible refine (CM.out w').mono ?_; rintro e w'' ⟨rfl, hb⟩; exact ⟨rfl, hw'.below hb⟩) | fail), ?_⟩; go_big_quiet_on)
      | (go_big_quiet_want; go_big_quiet_op; apply Exists.intro; refine ⟨fun w' hw' => rfl, ?_⟩; go_big_quiet_on))
    refine wpQuiet_nil ?_
    intro w1 hw1
    go_wp2_with (first | refine wpList_store_v rfl 24 (.tmp 6) (.tmp 11) rfl _ rfl typfx (hw1.at 1 rfl) zero18_len (pcells 0 zero16 0) zero18_len zero18_one rfl ?_ | fail)
    have hw9 := hw1.store 1 rfl (pcells 0 zero16 0) rfl
    exact bodyPost_ret (v := .tuple #[.agg (pcells 0 zero16 0).toArray, .int .i64 4]) (res_cell_tmp Tryd.results7 rfl ((hw9.at 1 rfl).loadVar typfx zero18_len) rfl) rfl ⟨by rw [HF.out], hw9.bel⟩
  · have HF : Hid (pmake v X n = pcells 0 zero16 0) := by show _ = _; unfold pmake; rw [if_neg (by rw [hf]; decide)]
    rw [rmost_ok h] at CM
    rw [hf]
    obtain ⟨M, hM, hM1⟩ := psz_nat v
    rw [hM] at CM h2
    have hM0 : ¬ ((M : Int) < 0) := by omega
    clear h hf hM hM1 hX
    by_cases hn : n < 0
    · clear h2
      go_enter Tryd.func7, Tryd.ntmps7
      go_upto_region 1 with fail
      refine wp_region_lit ?_
      refine wpList_quiet_all (C := KV w [(22, w.heap.size, bcells X), (24, w.heap.size + 1, pcells 0 zero16 0)]) K0.out ?_
      repeat (first
        | go_big_quiet_skip
        | (go_big_quiet_want; apply Exists.intro; refine ⟨fun w' hw' => (by first | exact quietAt_part rfl rfl ty16 (hw'.at 0 rfl) (by rw [List.drop_zero, List.take_of_length_le (Nat.le_of_eq hs16)]) hs16 | fail), ?_⟩; simp only [Act.put, List.setIfInBounds_toArray, List.set_cons_zero, List.set_cons_succ]; go_big_quiet_on)
        | (go_big_quiet_want; go_big_quiet_op; go_big_quiet_on)
        | (go_big_quiet_want; go_big_quiet_op; apply Exists.intro; refine ⟨fun w' hw' => (by first | (with_reducible refine (CM.out w').mono ?_; rintro e w'' ⟨rfl, hb⟩; exact ⟨rfl, hw'.below hb⟩) | fail), ?_⟩; go_big_quiet_on)
        | (go_big_quiet_want; go_big_quiet_op; apply Exists.intro; refine ⟨fun w' hw' => rfl, ?_⟩; go_big_quiet_on))
      refine wpQuiet_nil ?_
      intro w1 hw1
      go_upto_region 3 with fail
      refine wp_region_lit ?_
      refine wpList_quiet_all (C := KV w [(22, w.heap.size, bcells X), (24, w.heap.size + 1, pcells 0 zero16 0)]) hw1 ?_
      repeat (first
        | go_big_quiet_skip
        | (go_big_quiet_want; apply Exists.intro; refine ⟨fun w' hw' => (by first | exact quietAt_part rfl rfl ty16 (hw'.at 0 rfl) (by rw [List.drop_zero, List.take_of_length_le (Nat.le_of_eq hs16)]) hs16 | fail), ?_⟩; simp only [Act.put, List.setIfInBounds_toArray, List.set_cons_zero, List.set_cons_succ]; go_big_quiet_on)
        | (go_big_quiet_want; go_big_quiet_op; go_big_quiet_on)
        | (go_big_quiet_want; go_big_quiet_op; apply Exists.intro; refine ⟨fun w' hw' => (by first | (with_reducible refine (CM.out w').mono ?_; rintro e w'' ⟨rfl, hb⟩; exact ⟨rfl, hw'.below hb⟩) | fail), ?_⟩; go_big_quiet_on)
        | (go_big_quiet_want; go_big_quiet_op; apply Exists.intro; refine ⟨fun w' hw' => rfl, ?_⟩; go_big_quiet_on))
      refine wpQuiet_nil ?_
      intro w2 hw2
      go_wp2_with (first | refine wpList_store_v rfl 24 (.tmp 6) (.tmp 20) rfl _ rfl typfx (hw2.at 1 rfl) zero18_len (pcells 0 zero16 0) zero18_len zero18_one rfl ?_ | fail)
      have hw9 := hw2.store 1 rfl (pcells 0 zero16 0) rfl
      exact bodyPost_ret (v := .tuple #[.agg (pcells 0 zero16 0).toArray, .int .i64 1]) (res_cell_tmp Tryd.results7 rfl ((hw9.at 1 rfl).loadVar typfx zero18_len) rfl) rfl ⟨by rw [HF.out], hw9.bel⟩
    · have hMn : (M : Int) < n := by omega
      clear h2
      go_enter Tryd.func7, Tryd.ntmps7
      go_upto_region 1 with fail
      refine wp_region_lit ?_
      refine wpList_quiet_all (C := KV w [(22, w.heap.size, bcells X), (24, w.heap.size + 1, pcells 0 zero16 0)]) K0.out ?_
      repeat (first
        | go_big_quiet_skip
        | (go_big_quiet_want; apply Exists.intro; refine ⟨fun w' hw' => (by first | exact quietAt_part rfl rfl ty16 (hw'.at 0 rfl) (by rw [List.drop_zero, List.take_of_length_le (Nat.le_of_eq hs16)]) hs16 | fail), ?_⟩; simp only [Act.put, List.setIfInBounds_toArray, List.set_cons_zero, List.set_cons_succ]; go_big_quiet_on)
        | (go_big_quiet_want; go_big_quiet_op; go_big_quiet_on)
        | (go_big_quiet_want; go_big_quiet_op; apply Exists.intro; refine ⟨fun w' hw' => (by first | (with_reducible refine (CM.out w').mono ?_; rintro e w'' ⟨rfl, hb⟩; exact ⟨rfl, hw'.below hb⟩) | fail), ?_⟩; go_big_quiet_on)
        | (go_big_quiet_want; go_big_quiet_op; apply Exists.intro; refine ⟨fun w' hw' => rfl, ?_⟩; go_big_quiet_on))
      refine wpQuiet_nil ?_
      intro w1 hw1
      go_upto_region 3 with fail
      refine wp_region_lit ?_
      refine wpList_quiet_all (C := KV w [(22, w.heap.size, bcells X), (24, w.heap.size + 1, pcells 0 zero16 0)]) hw1 ?_
      repeat (first
        | go_big_quiet_skip
        | (go_big_quiet_want; apply Exists.intro; refine ⟨fun w' hw' => (by first | exact quietAt_part rfl rfl ty16 (hw'.at 0 rfl) (by rw [List.drop_zero, List.take_of_length_le (Nat.le_of_eq hs16)]) hs16 | fail), ?_⟩; simp only [Act.put, List.setIfInBounds_toArray, List.set_cons_zero, List.set_cons_succ]; go_big_quiet_on)
        | (go_big_quiet_want; go_big_quiet_op; go_big_quiet_on)
        | (go_big_quiet_want; go_big_quiet_op; apply Exists.intro; refine ⟨fun w' hw' => (by first | (with_reducible refine (CM.out w').mono ?_; rintro e w'' ⟨rfl, hb⟩; exact ⟨rfl, hw'.below hb⟩) | fail), ?_⟩; go_big_quiet_on)
        | (go_big_quiet_want; go_big_quiet_op; apply Exists.intro; refine ⟨fun w' hw' => rfl, ?_⟩; go_big_quiet_on))
      refine wpQuiet_nil ?_
      intro w2 hw2
      go_wp2_with (first | refine wpList_store_v rfl 24 (.tmp 6) (.tmp 20) rfl _ rfl typfx (hw2.at 1 rfl) zero18_len (pcells 0 zero16 0) zero18_len zero18_one rfl ?_ | fail)
      have hw9 := hw2.store 1 rfl (pcells 0 zero16 0) rfl
      exact bodyPost_ret (v := .tuple #[.agg (pcells 0 zero16 0).toArray, .int .i64 1]) (res_cell_tmp Tryd.results7 rfl ((hw9.at 1 rfl).loadVar typfx zero18_len) rfl) rfl ⟨by rw [HF.out], hw9.bel⟩
  · rw [rmost_ok h] at CM
    obtain ⟨m, hm⟩ := Int.eq_ofNat_of_zero_le h2
    obtain ⟨M, hM, hM1⟩ := psz_nat v
    rw [hM] at CM h3
    have hM0 : ¬ ((M : Int) < 0) := by omega
    have hn0 : ¬ (n < 0) := by omega
    have hMn : ¬ ((M : Int) < n) := by omega
    have CK : Hid (∀ w, Calls Tryd.prog 26 #[.agg (bcells X).toArray, .int .i64 n] w fun e w' => e = .returned (.agg (bcells (keepB X m)).toArray) ∧ Below w.heap.size w w') := fun w => by
      rw [hm]; exact rfront_any X m w hX (by omega)
    have HF : Hid (pmake v X n = pcells v (keepB X m) n) := by show _ = _; unfold pmake; rw [if_pos hf, hm]; rfl
    have HK := Lib.hid (keepB_len X m)
    have HR := Lib.hid (pc_parts v n (keepB_len X m))
    rw [hf]
    clear hf h h2 h3 hm hM hM1 hX
    generalize keepB X m = K at *
    obtain ⟨R, hR⟩ : ∃ R, R = pcells v K n := ⟨_, rfl⟩
    have HRe : Hid (pcells v K n = R) := hR.symm
    rw [← hR] at HR HF
    clear hR
    go_enter Tryd.func7, Tryd.ntmps7
    go_upto_region 1 with fail
    refine wp_region_lit ?_
    refine wpList_quiet_all (C := KV w [(22, w.heap.size, bcells X), (24, w.heap.size + 1, pcells 0 zero16 0)]) K0.out ?_
    repeat (first
      | go_big_quiet_skip
      | (go_big_quiet_want; apply Exists.intro; refine ⟨fun w' hw' => (by first | exact quietAt_part rfl rfl ty16 (hw'.at 0 rfl) (by rw [List.drop_zero, List.take_of_length_le (Nat.le_of_eq hs16)]) hs16 | fail), ?_⟩; simp only [Act.put, List.setIfInBounds_toArray, List.set_cons_zero, List.set_cons_succ]; go_big_quiet_on)
      | (go_big_quiet_want; go_big_quiet_op; go_big_quiet_on)
      | (go_big_quiet_want; go_big_quiet_op; apply Exists.intro; refine ⟨fun w' hw' => (by first | (with_reducible refine (CM.out w').mono ?_; rintro e w'' ⟨rfl, hb⟩; exact ⟨rfl, hw'.below hb⟩) | fail), ?_⟩; go_big_quiet_on)
      | (go_big_quiet_want; go_big_quiet_op; apply Exists.intro; refine ⟨fun w' hw' => rfl, ?_⟩; go_big_quiet_on))
    refine wpQuiet_nil ?_
    intro w1 hw1
    go_upto_region 3 with fail
    refine wp_region_lit ?_
    refine wpList_quiet_all (C := KV w [(22, w.heap.size, bcells X), (24, w.heap.size + 1, pcells 0 zero16 0)]) hw1 ?_
    repeat (first
      | go_big_quiet_skip
      | (go_big_quiet_want; apply Exists.intro; refine ⟨fun w' hw' => (by first | exact quietAt_part rfl rfl ty16 (hw'.at 0 rfl) (by rw [List.drop_zero, List.take_of_length_le (Nat.le_of_eq hs16)]) hs16 | fail), ?_⟩; simp only [Act.put, List.setIfInBounds_toArray, List.set_cons_zero, List.set_cons_succ]; go_big_quiet_on)
      | (go_big_quiet_want; go_big_quiet_op; go_big_quiet_on)
      | (go_big_quiet_want; go_big_quiet_op; apply Exists.intro; refine ⟨fun w' hw' => (by first | (with_reducible refine (CM.out w').mono ?_; rintro e w'' ⟨rfl, hb⟩; exact ⟨rfl, hw'.below hb⟩) | fail), ?_⟩; go_big_quiet_on)
      | (go_big_quiet_want; go_big_quiet_op; apply Exists.intro; refine ⟨fun w' hw' => rfl, ?_⟩; go_big_quiet_on))
    refine wpQuiet_nil ?_
    intro w2 hw2
    go_upto_region 5 with fail
    refine wp_region_lit ?_
    refine wpList_quiet_take (C := KV w [(22, w.heap.size, bcells X), (24, w.heap.size + 1, pcells 0 zero16 0)]) 6 hw2 ?_
    simp only [List.take, List.drop]
    repeat (first
      | go_big_quiet_skip
      | (go_big_quiet_want; apply Exists.intro; refine ⟨fun w' hw' => (by first | exact quietAt_part rfl rfl ty16 (hw'.at 0 rfl) (by rw [List.drop_zero, List.take_of_length_le (Nat.le_of_eq hs16)]) hs16 | exact quietAt_pfxe rfl rfl rfl rfl HK.out HRe.out | fail), ?_⟩; simp only [Act.put, List.setIfInBounds_toArray, List.set_cons_zero, List.set_cons_succ]; go_big_quiet_on)
      | (go_big_quiet_want; go_big_quiet_op; go_big_quiet_on)
      | (go_big_quiet_want; go_big_quiet_op; apply Exists.intro; refine ⟨fun w' hw' => (by first | (with_reducible refine (CK.out w').mono ?_; rintro e w'' ⟨rfl, hb⟩; exact ⟨rfl, hw'.below hb⟩) | fail), ?_⟩; go_big_quiet_on)
      | (go_big_quiet_want; go_big_quiet_op; apply Exists.intro; refine ⟨fun w' hw' => rfl, ?_⟩; go_big_quiet_on))
    refine wpQuiet_nil ?_
    intro w4 hw4
    have a1 := Lib.hid (hw4.at 1 rfl)
    have hw9 := hw4.store 1 rfl R (by rw [HR.out.len]; rfl)
    clear hw1 hw2 hw4
    go_wp2_with (first | refine wpList_store_v rfl 24 (.tmp 6) (.tmp 26) rfl _ rfl typfx a1.out zero18_len R HR.out.len HR.out.one rfl ?_ | fail)
    exact bodyPost_ret (v := .tuple #[.agg R.toArray, .int .i64 0]) (res_cell_tmp Tryd.results7 rfl ((hw9.at 1 rfl).loadVar typfx HR.out.len) rfl) rfl ⟨by rw [HF.out], hw9.bel⟩
end Go.Proofs.YtlkilkhnblmjaaaDoor
