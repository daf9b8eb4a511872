/-
  The contract of the document's Last of layer 7.
-/
import Derived.Test.YtlkilkhnblmjaaaDoorRPre5
namespace Go.Proofs.YtlkilkhnblmjaaaDoor
open Go.RowKit
set_option linter.unusedVariables false

set_option maxRecDepth 10000 in
set_option maxHeartbeats 6400000 in
theorem rlast_any (V : Int) (X : List Nat) (n : Int) (w : World) (hX : Adr X) : Calls Tryd.prog 14 #[.agg (pcells V X n).toArray] w fun e w' => e = .returned (.agg (bcells (plast V X n)).toArray) ∧ Below w.heap.size w w' := by
  have HP := Lib.hid (pc_parts V n hX.len)
  have hs16 : (bcells X).length = 16 := by rw [bcells_length, hX.len]
  have CC := Lib.hid (fun w => rcheck_any V X n w hX)
  obtain ⟨P, hP⟩ : ∃ P, P = pcells V X n := ⟨_, rfl⟩
  rw [← hP] at HP CC ⊢
  have K0 : Hid (KV w [(24, w.heap.size, P), (22, w.heap.size + 1, bcells zero16)] ((w.alloc (.cells P.toArray 24)).alloc (.cells (bcells zero16).toArray 22))) := KV.two w _ _ _ _
  clear hP
  by_cases hc : pcheck V X n = 0
  · have hf := pcheck_len hc
    obtain ⟨hn0, hn1⟩ := pfits_ok hf
    obtain ⟨m, hm⟩ := Int.eq_ofNat_of_zero_le hn0
    obtain ⟨M, hM, hM1⟩ := psz_nat V
    have hle := pfits_le hf
    have hV : V = 4 ∨ V = 6 := by
      rcases pfits_cases V n with ⟨_, h2⟩ | ⟨_, _, h2⟩ | ⟨h1, _⟩
      · rw [hf] at h2; cases h2
      · rw [hf] at h2; cases h2
      · exact h1
    have CM : Hid (∀ w, Calls Tryd.prog 25 #[.int .i64 V] w fun e w' => e = .returned (.int .i64 (M : Nat)) ∧ Below w.heap.size w w') := fun w => (rmost_any V w).mono fun e w' ⟨h1, h2⟩ => ⟨by rw [h1, rmost_ok hV, hM], h2⟩
    have HF : Hid (plast V X n = fillB X m M) := by show _ = _; unfold plast; rw [if_pos hc, hm, hM]; rfl
    have HX := Lib.hid hX
    have HmM : Hid (M ≤ 128 ∧ m ≤ M) := ⟨hM1, by omega⟩
    rw [hc] at CC
    have hm2 : n = ((m : Nat) : Int) := hm
    subst hm2
    clear hc hn0 hn1 hm hM hM1 hX hf hle hV
    go_enter Tryd.func14, Tryd.ntmps14
    go_upto_region 1 with fail
    refine wp_region_lit ?_
    refine wpList_quiet_all (C := KV w [(24, w.heap.size, P), (22, w.heap.size + 1, bcells zero16)]) K0.out ?_
    repeat (first
      | go_big_quiet_skip
      | (go_big_quiet_want; apply Exists.intro; refine ⟨fun w' hw' => (by first | exact quietAt_part rfl rfl typfx (hw'.at 0 rfl) HP.out.all HP.out.len | exact quietAt_cell rfl rfl one_int (hw'.at 0 rfl) HP.out.v | exact quietAt_cell rfl rfl one_int (hw'.at 0 rfl) HP.out.n | exact quietAt_part rfl rfl ty16 (hw'.at 0 rfl) HP.out.addr hs16 | fail), ?_⟩; simp only [Act.put, List.setIfInBounds_toArray, List.set_cons_zero, List.set_cons_succ]; go_big_quiet_on)
      | (go_big_quiet_want; go_big_quiet_op; go_big_quiet_on)
      | (go_big_quiet_want; go_big_quiet_op; apply Exists.intro; refine ⟨fun w' hw' => (by first | (with_reducible refine (CC.out w').mono ?_; rintro e w'' ⟨rfl, hb⟩; exact ⟨rfl, hw'.below hb⟩) | fail), ?_⟩; go_big_quiet_on)
      | (go_big_quiet_want; go_big_quiet_op; apply Exists.intro; refine ⟨fun w' hw' => rfl, ?_⟩; go_big_quiet_on))
    refine wpQuiet_nil ?_
    intro w1 hw1
    go_upto_region 3 with fail
    refine wp_region_lit ?_
    refine wpList_quiet_take (C := KV w [(24, w.heap.size, P), (22, w.heap.size + 1, bcells zero16)]) 2 hw1 ?_
    simp only [List.take, List.drop]
    repeat (first
      | go_big_quiet_skip
      | (go_big_quiet_want; apply Exists.intro; refine ⟨fun w' hw' => (by first | exact quietAt_part rfl rfl typfx (hw'.at 0 rfl) HP.out.all HP.out.len | exact quietAt_cell rfl rfl one_int (hw'.at 0 rfl) HP.out.v | exact quietAt_cell rfl rfl one_int (hw'.at 0 rfl) HP.out.n | exact quietAt_part rfl rfl ty16 (hw'.at 0 rfl) HP.out.addr hs16 | fail), ?_⟩; simp only [Act.put, List.setIfInBounds_toArray, List.set_cons_zero, List.set_cons_succ]; go_big_quiet_on)
      | (go_big_quiet_want; go_big_quiet_op; go_big_quiet_on)
      | (go_big_quiet_want; go_big_quiet_op; apply Exists.intro; refine ⟨fun w' hw' => rfl, ?_⟩; go_big_quiet_on))
    refine wpQuiet_nil ?_
    intro w2 hw2
    have K3 : Hid (KV w [(24, w.heap.size, P), (22, w.heap.size + 1, bcells zero16), (22, w2.heap.size, bcells X)] ((w2.alloc (.cells (bcells zero16).toArray 22)).setCells w2.heap.size 0 (bcells X))) := (hw2.new 22 (bcells zero16)).store 2 rfl (bcells X) (by rw [hs16]; rfl)
    have a3 := Lib.hid ((hw2.new 22 (bcells zero16)).at 2 rfl)
    clear hw1 hw2 CC K0
    go_upto_region 4 with (first | refine wpList_store_v rfl 22 (.tmp 3) (.tmp 10) rfl _ rfl ty16 a3.out rfl (bcells X) hs16 (bcells_one _) rfl ?_ | fail)
    simp only [Act.put]
    refine wp_region_lit ?_
    refine wpList_quiet_all (C := KV w [(24, w.heap.size, P), (22, w.heap.size + 1, bcells zero16), (22, w2.heap.size, bcells X)]) K3.out ?_
    repeat (first
      | go_big_quiet_skip
      | (go_big_quiet_want; apply Exists.intro; refine ⟨fun w' hw' => (by first | exact quietAt_part rfl rfl typfx (hw'.at 0 rfl) HP.out.all HP.out.len | exact quietAt_cell rfl rfl one_int (hw'.at 0 rfl) HP.out.v | exact quietAt_cell rfl rfl one_int (hw'.at 0 rfl) HP.out.n | exact quietAt_part rfl rfl ty16 (hw'.at 0 rfl) HP.out.addr hs16 | fail), ?_⟩; simp only [Act.put, List.setIfInBounds_toArray, List.set_cons_zero, List.set_cons_succ]; go_big_quiet_on)
      | (go_big_quiet_want; go_big_quiet_op; go_big_quiet_on)
      | (go_big_quiet_want; go_big_quiet_op; apply Exists.intro; refine ⟨fun w' hw' => rfl, ?_⟩; go_big_quiet_on))
    refine wpQuiet_nil ?_
    intro w4 hw4
    obtain ⟨g3, e3⟩ : ∃ g, g = w2.heap.size := ⟨_, rfl⟩
    rw [← e3] at hw4 ⊢
    clear e3 K3 a3
    have K5 : Hid (KV w [(24, w.heap.size, P), (22, w.heap.size + 1, bcells zero16), (22, g3, bcells (fillB X m m))] w4) := by show KV _ _ _; rw [fillB_none HX.out]; exact hw4
    clear hw4
    go_wp2_with fail
    go_loopw [4] (fun i wr => ∃ k : Nat, k ≤ M ∧ m ≤ k ∧ i = .int .i64 k ∧ Hid (KV w [(24, w.heap.size, P), (22, w.heap.size + 1, bcells zero16), (22, g3, bcells (fillB X m k))] wr)) (fun i _ => M - (intOf i).toNat)
    case atStart => exact ⟨m, HmM.out.2, Nat.le_refl _, rfl, K5.out⟩
    case round =>
      clear K5
      obtain ⟨k, hkM, hmk, rfl, KK⟩ := hrel
      have hsK : (bcells (fillB X m k)).length = 16 := by rw [bcells_length, fillB_len]
      by_cases hlt : k < M
      · have hlti : (k : Int) < (M : Int) := by omega
        have hk128 : k < 128 := by have := HmM.out.1; omega
        have wk : wrap64 ((k : Int) + 1) = ((k + 1 : Nat) : Int) := wrap_inc (by omega)
        have CS := Lib.hid (fun w => rset_any (fillB X m k) k w (fillB_adr HX.out m k) hk128)
        rw [← fillB_step HX.out hmk hk128] at CS
        obtain ⟨Y, hY⟩ : ∃ Y, Y = bcells (fillB X m (k + 1)) := ⟨_, rfl⟩
        have hsN : Y.length = 16 := by rw [hY, bcells_length, fillB_len]
        have HY1 : Hid (∀ v ∈ Y, v.oneCell' = true) := by show ∀ v ∈ Y, v.oneCell' = true; rw [hY]; exact bcells_one _
        have HYe : Hid (Y = bcells (fillB X m (k + 1))) := hY
        rw [← hY] at CS
        have hkn : Hid (k + 1 ≤ M ∧ m ≤ k + 1) := ⟨hlt, by omega⟩
        clear hY hkM hmk hlt hk128
        go_upto_region 5 with fail
        refine wp_region_lit ?_
        refine wpList_quiet_all (C := KV w [(24, w.heap.size, P), (22, w.heap.size + 1, bcells zero16), (22, g3, bcells (fillB X m k))]) KK.out ?_
        repeat (first
          | go_big_quiet_skip
          | (go_big_quiet_want; apply Exists.intro; refine ⟨fun w' hw' => (by first | exact quietAt_part rfl rfl typfx (hw'.at 0 rfl) HP.out.all HP.out.len | exact quietAt_cell rfl rfl one_int (hw'.at 0 rfl) HP.out.v | exact quietAt_cell rfl rfl one_int (hw'.at 0 rfl) HP.out.n | exact quietAt_part rfl rfl ty16 (hw'.at 0 rfl) HP.out.addr hs16 | fail), ?_⟩; simp only [Act.put, List.setIfInBounds_toArray, List.set_cons_zero, List.set_cons_succ]; go_big_quiet_on)
          | (go_big_quiet_want; go_big_quiet_op; go_big_quiet_on)
          | (go_big_quiet_want; go_big_quiet_op; apply Exists.intro; refine ⟨fun w' hw' => (by first | (with_reducible refine (CM.out w').mono ?_; rintro e w'' ⟨rfl, hb⟩; exact ⟨rfl, hw'.below hb⟩) | fail), ?_⟩; go_big_quiet_on)
          | (go_big_quiet_want; go_big_quiet_op; apply Exists.intro; refine ⟨fun w' hw' => rfl, ?_⟩; go_big_quiet_on))
        refine wpQuiet_nil ?_
        intro w5 hw5
        go_upto_region 7 with fail
        refine wp_region_lit ?_
        refine wpList_quiet_take (C := KV w [(24, w.heap.size, P), (22, w.heap.size + 1, bcells zero16), (22, g3, bcells (fillB X m k))]) 3 hw5 ?_
        simp only [List.take, List.drop]
        repeat (first
          | go_big_quiet_skip
          | (go_big_quiet_want; apply Exists.intro; refine ⟨fun w' hw' => (by first | exact quietAt_part rfl rfl typfx (hw'.at 0 rfl) HP.out.all HP.out.len | exact quietAt_cell rfl rfl one_int (hw'.at 0 rfl) HP.out.v | exact quietAt_cell rfl rfl one_int (hw'.at 0 rfl) HP.out.n | exact quietAt_part rfl rfl ty16 (hw'.at 0 rfl) HP.out.addr hs16 | exact quietAt_part rfl rfl ty16 (hw'.at 2 rfl) (by rw [List.drop_zero, List.take_of_length_le (Nat.le_of_eq hsK)]) hsK | fail), ?_⟩; simp only [Act.put, List.setIfInBounds_toArray, List.set_cons_zero, List.set_cons_succ]; go_big_quiet_on)
          | (go_big_quiet_want; go_big_quiet_op; go_big_quiet_on)
          | (go_big_quiet_want; go_big_quiet_op; apply Exists.intro; refine ⟨fun w' hw' => (by first | (with_reducible refine (CS.out w').mono ?_; rintro e w'' ⟨rfl, hb⟩; exact ⟨rfl, hw'.below hb⟩) | fail), ?_⟩; go_big_quiet_on)
          | (go_big_quiet_want; go_big_quiet_op; apply Exists.intro; refine ⟨fun w' hw' => rfl, ?_⟩; go_big_quiet_on))
        refine wpQuiet_nil ?_
        intro w6 hw6
        have a2 := Lib.hid (hw6.at 2 rfl)
        have KN := Lib.hid (hw6.store 2 rfl Y (by rw [hsN, hsK]))
        clear hw5 hw6 KK CS
        go_wp2_with (first | refine wpList_store_v rfl 22 (.tmp 3) (.tmp 22) rfl _ rfl ty16 a2.out hsK Y hsN HY1.out rfl ?_ | fail)
        rw [wk]
        go_roundw
        case rel => exact ⟨k + 1, hkn.out.1, hkn.out.2, rfl, by have h := KN.out; rw [← HYe.out]; exact h⟩
        case measure => have := hkn.out.1; simp [intOf]; omega
      · obtain rfl : k = M := by omega
        have hlti : ¬ ((k : Int) < (k : Int)) := by omega
        clear hkM hmk hlt
        go_upto_region 5 with fail
        refine wp_region_lit ?_
        refine wpList_quiet_all (C := KV w [(24, w.heap.size, P), (22, w.heap.size + 1, bcells zero16), (22, g3, bcells (fillB X m k))]) KK.out ?_
        repeat (first
          | go_big_quiet_skip
          | (go_big_quiet_want; apply Exists.intro; refine ⟨fun w' hw' => (by first | exact quietAt_part rfl rfl typfx (hw'.at 0 rfl) HP.out.all HP.out.len | exact quietAt_cell rfl rfl one_int (hw'.at 0 rfl) HP.out.v | exact quietAt_cell rfl rfl one_int (hw'.at 0 rfl) HP.out.n | exact quietAt_part rfl rfl ty16 (hw'.at 0 rfl) HP.out.addr hs16 | fail), ?_⟩; simp only [Act.put, List.setIfInBounds_toArray, List.set_cons_zero, List.set_cons_succ]; go_big_quiet_on)
          | (go_big_quiet_want; go_big_quiet_op; go_big_quiet_on)
          | (go_big_quiet_want; go_big_quiet_op; apply Exists.intro; refine ⟨fun w' hw' => (by first | (with_reducible refine (CM.out w').mono ?_; rintro e w'' ⟨rfl, hb⟩; exact ⟨rfl, hw'.below hb⟩) | fail), ?_⟩; go_big_quiet_on)
          | (go_big_quiet_want; go_big_quiet_op; apply Exists.intro; refine ⟨fun w' hw' => rfl, ?_⟩; go_big_quiet_on))
        refine wpQuiet_nil ?_
        intro w5 hw5
        have a2 := Lib.hid (hw5.at 2 rfl)
        have a1 := Lib.hid (hw5.at 1 rfl)
        have K9 := Lib.hid (hw5.store 1 rfl (bcells (fillB X m k)) (by rw [hsK]; rfl))
        clear KK hw5
        obtain ⟨Y, hY⟩ : ∃ Y, Y = fillB X m k := ⟨_, rfl⟩
        rw [← hY] at hsK a2 K9
        have HFY : Hid (plast V X (m : Int) = Y) := by show _ = _; rw [HF.out, hY]
        clear hY HF
        go_upto_region 8 with fail
        refine wp_region_lit ?_
        go_wp2_with (first | refine wpList_load_v rfl 22 (.tmp 3) rfl _ rfl ty16 a2.out hsK ?_ | refine wpList_store_v rfl 22 (.tmp 2) (.tmp 23) rfl _ rfl ty16 a1.out rfl (bcells Y) hsK (bcells_one _) rfl ?_ | fail)
        exact bodyPost_ret (v := .agg (bcells Y).toArray) (res_cell Tryd.results14 rfl ((K9.out.at 1 rfl).loadVar ty16 hsK)) rfl ⟨by rw [HFY.out], K9.out.bel⟩
  · have HF : Hid (plast V X n = zero16) := by show _ = _; unfold plast; rw [if_neg hc]
    have hcb : (pcheck V X n != 0) = true := by simpa using hc
    clear hc hX
    generalize pcheck V X n = f at *
    go_enter Tryd.func14, Tryd.ntmps14
    go_upto_region 1 with fail
    refine wp_region_lit ?_
    refine wpList_quiet_all (C := KV w [(24, w.heap.size, P), (22, w.heap.size + 1, bcells zero16)]) K0.out ?_
    repeat (first
      | go_big_quiet_skip
      | (go_big_quiet_want; apply Exists.intro; refine ⟨fun w' hw' => (by first | exact quietAt_part rfl rfl typfx (hw'.at 0 rfl) HP.out.all HP.out.len | exact quietAt_cell rfl rfl one_int (hw'.at 0 rfl) HP.out.v | exact quietAt_cell rfl rfl one_int (hw'.at 0 rfl) HP.out.n | exact quietAt_part rfl rfl ty16 (hw'.at 0 rfl) HP.out.addr hs16 | fail), ?_⟩; simp only [Act.put, List.setIfInBounds_toArray, List.set_cons_zero, List.set_cons_succ]; go_big_quiet_on)
      | (go_big_quiet_want; go_big_quiet_op; go_big_quiet_on)
      | (go_big_quiet_want; go_big_quiet_op; apply Exists.intro; refine ⟨fun w' hw' => (by first | (with_reducible refine (CC.out w').mono ?_; rintro e w'' ⟨rfl, hb⟩; exact ⟨rfl, hw'.below hb⟩) | fail), ?_⟩; go_big_quiet_on)
      | (go_big_quiet_want; go_big_quiet_op; apply Exists.intro; refine ⟨fun w' hw' => rfl, ?_⟩; go_big_quiet_on))
    refine wpQuiet_nil ?_
    intro w1 hw1
    go_wp2_with (first | refine wpList_store_v rfl 22 (.tmp 2) (.tmp 8) rfl _ rfl ty16 (hw1.at 1 rfl) rfl (bcells zero16) rfl (bcells_one _) rfl ?_ | fail)
    have hw3 := hw1.store 1 rfl (bcells zero16) rfl
    exact bodyPost_ret (v := .agg (bcells zero16).toArray) (res_cell Tryd.results14 rfl ((hw3.at 1 rfl).loadVar ty16 rfl)) rfl ⟨by rw [HF.out], hw3.bel⟩
end Go.Proofs.YtlkilkhnblmjaaaDoor
