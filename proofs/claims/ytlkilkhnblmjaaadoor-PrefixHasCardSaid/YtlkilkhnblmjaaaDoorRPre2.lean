/-
  The contracts of the document's set and front of layer 7.
-/
import Derived.Test.YtlkilkhnblmjaaaDoorRPre1
namespace Go.Proofs.YtlkilkhnblmjaaaDoor
open Go.RowKit
set_option linter.unusedVariables false

theorem wrap_byte {x : Nat} (h : x < 256) : wrap64 (x : Int) = (x : Int) := by unfold wrap64; omega
theorem wrap_sum {x m y : Nat} (h : y = x + m) (hy : y < 256) : wrap64 ((x : Int) + (m : Int)) = (y : Int) := by unfold wrap64; omega
theorem wrap_u8 {y : Nat} (h : y < 256) : IntKind.u8.wrap (y : Int) = (y : Int) := by show (y : Int) % 256 = _; omega
theorem le_sum {x m y : Nat} (h : y = x + m) (hy : y < 256) : x < 256 := by omega
theorem setB_len {X : List Nat} {i : Nat} (h : X.length = 16) : (setB X i).length = 16 := by unfold setB; split; exact h; rw [List.length_set, h]
set_option maxRecDepth 10000 in
set_option maxHeartbeats 3200000 in
theorem rset_any (X : List Nat) (i : Nat) (w : World) (hX : Adr X) (hi : i < 128) : Calls Tryd.prog 28 #[.agg (bcells X).toArray, .int .i64 i] w fun e w' => e = .returned (.agg (bcells (setB X i)).toArray) ∧ Below w.heap.size w w' := by
  have hs16 : (bcells X).length = 16 := by rw [bcells_length, hX.len]
  have CB := Lib.hid (fun w => rbit_any X i w hX hi)
  have K0 : Hid (KV w [(22, w.heap.size, bcells X), (22, w.heap.size + 1, bcells zero16)] ((w.alloc (.cells (bcells X).toArray 22)).alloc (.cells (bcells zero16).toArray 22))) := KV.two w _ _ _ _
  cases hb : bt X i
  · have hbi : rbit X i = 0 := by unfold rbit; rw [hb]; rfl
    rw [hbi] at CB
    obtain ⟨k2, k3, k4⟩ := bit_arith hi
    have hadd := add_or0 (X.getD (i / 8) 0) (hX.at _) (7 - i % 8) (by omega) hb
    have HS : Hid (setB X i = X.set (i / 8) (X.getD (i / 8) 0 + 2 ^ (7 - i % 8))) := by show _ = _; unfold setB; rw [hb]; rfl
    obtain ⟨q, hq⟩ : ∃ q, q = i / 8 := ⟨_, rfl⟩
    obtain ⟨r, hr⟩ : ∃ r, r = i % 8 := ⟨_, rfl⟩
    obtain ⟨s, hs⟩ : ∃ s, s = 7 - i % 8 := ⟨_, rfl⟩
    have hqi : (q : Int) < 16 := by omega
    have hqn : Hid (q < 16) := by show _ < _; omega
    have hs7 : Hid (s ≤ 7) := by show _ ≤ _; omega
    rw [← hs, ← hq] at HS hadd
    rw [← hs, ← hr] at k4
    rw [← hq] at k2
    rw [← hr] at k3
    obtain ⟨x, hx⟩ : ∃ x, x = X.getD q 0 := ⟨_, rfl⟩
    rw [← hx] at HS hadd
    have hc0 : Hid ((bcells X)[q]? = some (.int .u8 (x : Nat))) := by show _ = _; rw [bcells_at (by rw [hX.len]; exact hqn.out), hx]
    have hsum : Hid (x + 2 ^ s < 256) := hadd.2
    have HX := Lib.hid hX.len
    clear hq hr hs hx hX hi hb hbi hadd
    go_enter Tryd.func28, Tryd.ntmps28
    go_upto_region 1 with fail
    refine wp_region_lit ?_
    refine wpList_quiet_all (C := KV w [(22, w.heap.size, bcells X), (22, w.heap.size + 1, bcells zero16)]) K0.out ?_
    repeat (first
      | go_big_quiet_skip
      | (go_big_quiet_want; apply Exists.intro; refine ⟨fun w' hw' => (by first | exact quietAt_part rfl rfl ty16 (hw'.at 0 rfl) (by rw [List.drop_zero, List.take_of_length_le (Nat.le_of_eq hs16)]) hs16 | fail), ?_⟩; simp only [Act.put, List.setIfInBounds_toArray, List.set_cons_zero, List.set_cons_succ]; go_big_quiet_on)
      | (go_big_quiet_want; go_big_quiet_op; go_big_quiet_on)
      | (go_big_quiet_want; go_big_quiet_op; apply Exists.intro; refine ⟨fun w' hw' => (by first | (with_reducible refine (CB.out w').mono ?_; rintro e w'' ⟨rfl, hb⟩; exact ⟨rfl, hw'.below hb⟩) | fail), ?_⟩; go_big_quiet_on)
      | (go_big_quiet_want; go_big_quiet_op; apply Exists.intro; refine ⟨fun w' hw' => rfl, ?_⟩; go_big_quiet_on))
    refine wpQuiet_nil ?_
    intro w1 hw1
    clear K0 CB
    go_wp2_with fail
    rw [k4]
    clear k4
    go_loopw [5, 6] (fun n k wr => ∃ j m : Nat, j ≤ s ∧ k = .int .i64 j ∧ n = .int .i64 m ∧ Hid (m = 2 ^ (s - j)) ∧ wr = w1) (fun _ k _ => (intOf k).toNat)
    case atStart => exact ⟨s, 1, Nat.le_refl _, rfl, rfl, by show _ = _; rw [Nat.sub_self], rfl⟩
    case round =>
      obtain ⟨j, m, hj, rfl, rfl, Hm, rfl⟩ := hrel
      match j, hj with
      | 0, _ =>
        rw [Nat.sub_zero] at Hm
        obtain ⟨y, hy⟩ : ∃ y, y = x + m := ⟨_, rfl⟩
        have hy256 : y < 256 := by rw [hy, Hm.out]; exact hsum.out
        have w3 : wrap64 ((x : Int) + (m : Int)) = (y : Int) := wrap_sum hy hy256
        have w4 : IntKind.u8.wrap (y : Int) = (y : Int) := wrap_u8 hy256
        have w5 : wrap64 (x : Int) = (x : Int) := wrap_byte (le_sum hy hy256)
        have c0 : wr.cell? ⟨w.heap.size, q, none⟩ = some (.int .u8 (x : Nat)) := by rw [(hw1.at 0 rfl).get]; exact hc0.out
        have f0 := (hw1.at 0 rfl).frozen q
        have KP := Lib.hid (hw1.put 0 rfl q (.int .u8 (y : Nat)))
        have hset : Hid (setB X i = X.set q y) := by show _ = _; rw [HS.out, hy, Hm.out]
        rw [bset_cells, ← hset.out] at KP
        have hlS : Hid ((bcells (setB X i)).length = 16) := by show _ = _; rw [bcells_length, setB_len HX.out]
        have a0 := Lib.hid (KP.out.at 0 rfl)
        have a1 := Lib.hid (KP.out.at 1 rfl)
        have K9 := Lib.hid (KP.out.store 1 rfl (bcells (setB X i)) (by rw [hlS.out]; rfl))
        clear hw1 KP hset hy hy256 Hm HS hsum
        obtain ⟨Y, hY⟩ : ∃ Y, Y = setB X i := ⟨_, rfl⟩
        rw [← hY] at hlS a0 K9
        have HF : Hid (setB X i = Y) := hY.symm
        clear hY
        go_upto_region 9 with fail
        refine wp_region_lit ?_
        go_wp2_with (first | refine wpList_load_v rfl 22 (.tmp 2) rfl _ rfl ty16 a0.out hlS.out ?_ | refine wpList_store_v rfl 22 (.tmp 4) (.tmp 32) rfl _ rfl ty16 a1.out rfl (bcells Y) hlS.out (bcells_one _) rfl ?_ | fail)
        exact bodyPost_ret (v := .agg (bcells Y).toArray) (res_cell Tryd.results28 rfl ((K9.out.at 1 rfl).loadVar ty16 hlS.out)) rfl ⟨by rw [HF.out], K9.out.bel⟩
      | j + 1, hj =>
        have wj := less_one (j := j) (by have := hs7.out; omega)
        have HM : Hid (2 * m = 2 ^ (s - j)) := by
          show _ = _
          rw [Hm.out, show s - j = (s - (j + 1)) + 1 from by omega, Nat.pow_succ, Nat.mul_comm]
        obtain ⟨u, hu⟩ : ∃ u, u = 2 * m := ⟨_, rfl⟩
        have wm : wrap64 ((m : Int) * 2) = (u : Int) := by
          have h1 : 2 ^ (s - j) ≤ 2 ^ 7 := Nat.pow_le_pow_right (by decide) (by have := hs7.out; omega)
          have h2 := HM.out
          rw [hu]
          unfold wrap64
          omega
        rw [← hu] at HM
        have hpos : ¬ (((j + 1 : Nat) : Int) ≤ 0) := by omega
        have hpos2 : (0 : Int) < ((j + 1 : Nat) : Int) := by omega
        clear hu Hm
        obtain ⟨z, hz⟩ : ∃ z, z = j + 1 := ⟨_, rfl⟩
        rw [← hz] at wj hpos hpos2 ⊢
        have hjs : Hid (j ≤ s ∧ z = j + 1) := ⟨by omega, hz⟩
        clear hz hj
        go_wp2_with fail
        rw [wj, wm]
        go_roundw
        case rel => exact ⟨j, u, hjs.out.1, rfl, rfl, HM.out, trivial⟩
        case measure => have := hjs.out.2; simp [intOf]; omega
  · have hbi : rbit X i = 1 := by unfold rbit; rw [hb]; rfl
    rw [hbi] at CB
    have HS : Hid (setB X i = X) := by show _ = _; unfold setB; rw [hb]; rfl
    clear hb hbi hX hi
    go_enter Tryd.func28, Tryd.ntmps28
    go_upto_region 1 with fail
    refine wp_region_lit ?_
    refine wpList_quiet_all (C := KV w [(22, w.heap.size, bcells X), (22, w.heap.size + 1, bcells zero16)]) K0.out ?_
    repeat (first
      | go_big_quiet_skip
      | (go_big_quiet_want; apply Exists.intro; refine ⟨fun w' hw' => (by first | exact quietAt_part rfl rfl ty16 (hw'.at 0 rfl) (by rw [List.drop_zero, List.take_of_length_le (Nat.le_of_eq hs16)]) hs16 | fail), ?_⟩; simp only [Act.put, List.setIfInBounds_toArray, List.set_cons_zero, List.set_cons_succ]; go_big_quiet_on)
      | (go_big_quiet_want; go_big_quiet_op; go_big_quiet_on)
      | (go_big_quiet_want; go_big_quiet_op; apply Exists.intro; refine ⟨fun w' hw' => (by first | (with_reducible refine (CB.out w').mono ?_; rintro e w'' ⟨rfl, hb⟩; exact ⟨rfl, hw'.below hb⟩) | fail), ?_⟩; go_big_quiet_on)
      | (go_big_quiet_want; go_big_quiet_op; apply Exists.intro; refine ⟨fun w' hw' => rfl, ?_⟩; go_big_quiet_on))
    refine wpQuiet_nil ?_
    intro w1 hw1
    have a0 := Lib.hid (hw1.at 0 rfl)
    have a1 := Lib.hid (hw1.at 1 rfl)
    have K9 := Lib.hid (hw1.store 1 rfl (bcells X) (by rw [hs16]; rfl))
    clear hw1 K0 CB
    go_upto_region 2 with fail
    refine wp_region_lit ?_
    go_wp2_with (first | refine wpList_load_v rfl 22 (.tmp 2) rfl _ rfl ty16 a0.out hs16 ?_ | refine wpList_store_v rfl 22 (.tmp 4) (.tmp 11) rfl _ rfl ty16 a1.out rfl (bcells X) hs16 (bcells_one _) rfl ?_ | fail)
    exact bodyPost_ret (v := .agg (bcells X).toArray) (res_cell Tryd.results28 rfl ((K9.out.at 1 rfl).loadVar ty16 hs16)) rfl ⟨by rw [HS.out], K9.out.bel⟩
set_option maxRecDepth 10000 in
set_option maxHeartbeats 3200000 in
theorem rfront_any (X : List Nat) (n : Nat) (w : World) (hX : Adr X) (hn : n ≤ 128) : Calls Tryd.prog 26 #[.agg (bcells X).toArray, .int .i64 n] w fun e w' => e = .returned (.agg (bcells (keepB X n)).toArray) ∧ Below w.heap.size w w' := by
  have hs16 : (bcells X).length = 16 := by rw [bcells_length, hX.len]
  have K0 : Hid (KV w [(22, w.heap.size, bcells X), (22, w.heap.size + 1, bcells zero16), (22, w.heap.size + 2, bcells (keepB X 0))] (((w.alloc (.cells (bcells X).toArray 22)).alloc (.cells (bcells zero16).toArray 22)).alloc (.cells (bcells zero16).toArray 22))) := by
    have h := KV.three w 22 22 22 (bcells X) (bcells zero16) (bcells zero16)
    show KV _ _ _
    rw [keepB_zero]
    exact h
  have HX := Lib.hid (And.intro hX hn)
  clear hX
  go_enter Tryd.func26, Tryd.ntmps26
  go_wp2_with fail
  go_loopw [6] (fun i wr => ∃ k : Nat, k ≤ n ∧ i = .int .i64 k ∧ Hid (KV w [(22, w.heap.size, bcells X), (22, w.heap.size + 1, bcells zero16), (22, w.heap.size + 2, bcells (keepB X k))] wr)) (fun i _ => n - (intOf i).toNat)
  case atStart => exact ⟨0, Nat.zero_le _, rfl, K0.out⟩
  case round =>
    clear K0
    obtain ⟨k, hk, rfl, KK⟩ := hrel
    have hsK : (bcells (keepB X k)).length = 16 := by rw [bcells_length, keepB_len]
    by_cases hlt : k < n
    · have hlti : (k : Int) < (n : Int) := by omega
      have hk128 : k < 128 := by have := HX.out.2; omega
      have wk : wrap64 ((k : Int) + 1) = ((k + 1 : Nat) : Int) := wrap_inc (by omega)
      have CB := Lib.hid (fun w => rbit_any X k w HX.out.1 hk128)
      have CS := Lib.hid (fun w => rset_any (keepB X k) k w (keepB_adr k) hk128)
      have HST : Hid (keepB X (k + 1) = if bt X k then setB (keepB X k) k else keepB X k) := keepB_step hk128
      have hkn : Hid (k + 1 ≤ n) := hlt
      clear hk hlt hk128 hn
      cases hb : bt X k
      · have hbi : rbit X k = 0 := by unfold rbit; rw [hb]; rfl
        have HS2 : Hid (keepB X (k + 1) = keepB X k) := by show _ = _; rw [HST.out, hb]; rfl
        rw [hbi] at CB
        clear hb hbi HST CS
        go_upto_region 5 with fail
        refine wp_region_lit ?_
        refine wpList_quiet_all (C := KV w [(22, w.heap.size, bcells X), (22, w.heap.size + 1, bcells zero16), (22, w.heap.size + 2, bcells (keepB X k))]) KK.out ?_
        repeat (first
          | go_big_quiet_skip
          | (go_big_quiet_want; apply Exists.intro; refine ⟨fun w' hw' => (by first | exact quietAt_part rfl rfl ty16 (hw'.at 0 rfl) (by rw [List.drop_zero, List.take_of_length_le (Nat.le_of_eq hs16)]) hs16 | fail), ?_⟩; simp only [Act.put, List.setIfInBounds_toArray, List.set_cons_zero, List.set_cons_succ]; go_big_quiet_on)
          | (go_big_quiet_want; go_big_quiet_op; go_big_quiet_on)
          | (go_big_quiet_want; go_big_quiet_op; apply Exists.intro; refine ⟨fun w' hw' => (by first | (with_reducible refine (CB.out w').mono ?_; rintro e w'' ⟨rfl, hb⟩; exact ⟨rfl, hw'.below hb⟩) | fail), ?_⟩; go_big_quiet_on)
          | (go_big_quiet_want; go_big_quiet_op; apply Exists.intro; refine ⟨fun w' hw' => rfl, ?_⟩; go_big_quiet_on))
        refine wpQuiet_nil ?_
        intro w1 hw1
        have KN : Hid (KV w [(22, w.heap.size, bcells X), (22, w.heap.size + 1, bcells zero16), (22, w.heap.size + 2, bcells (keepB X (k + 1)))] w1) := by show KV _ _ _; rw [HS2.out]; exact hw1
        clear hw1 KK HS2 CB
        go_wp2_with fail
        rw [wk]
        go_roundw
        case rel => exact ⟨k + 1, hkn.out, rfl, KN.out⟩
        case measure => have := hkn.out; simp [intOf]; omega
      · have hbi : rbit X k = 1 := by unfold rbit; rw [hb]; rfl
        have HS2 : Hid (keepB X (k + 1) = setB (keepB X k) k) := by show _ = _; rw [HST.out, hb]; rfl
        rw [hbi] at CB
        rw [← HS2.out] at CS
        clear hb hbi HST
        obtain ⟨Y, hY⟩ : ∃ Y, Y = bcells (keepB X (k + 1)) := ⟨_, rfl⟩
        have hsN : Y.length = 16 := by rw [hY, bcells_length, keepB_len]
        have HY1 : Hid (∀ v ∈ Y, v.oneCell' = true) := by show ∀ v ∈ Y, v.oneCell' = true; rw [hY]; exact bcells_one _
        have HYe : Hid (Y = bcells (keepB X (k + 1))) := hY
        rw [← hY] at CS
        clear hY
        go_upto_region 5 with fail
        refine wp_region_lit ?_
        refine wpList_quiet_all (C := KV w [(22, w.heap.size, bcells X), (22, w.heap.size + 1, bcells zero16), (22, w.heap.size + 2, bcells (keepB X k))]) KK.out ?_
        repeat (first
          | go_big_quiet_skip
          | (go_big_quiet_want; apply Exists.intro; refine ⟨fun w' hw' => (by first | exact quietAt_part rfl rfl ty16 (hw'.at 0 rfl) (by rw [List.drop_zero, List.take_of_length_le (Nat.le_of_eq hs16)]) hs16 | fail), ?_⟩; simp only [Act.put, List.setIfInBounds_toArray, List.set_cons_zero, List.set_cons_succ]; go_big_quiet_on)
          | (go_big_quiet_want; go_big_quiet_op; go_big_quiet_on)
          | (go_big_quiet_want; go_big_quiet_op; apply Exists.intro; refine ⟨fun w' hw' => (by first | (with_reducible refine (CB.out w').mono ?_; rintro e w'' ⟨rfl, hb⟩; exact ⟨rfl, hw'.below hb⟩) | fail), ?_⟩; go_big_quiet_on)
          | (go_big_quiet_want; go_big_quiet_op; apply Exists.intro; refine ⟨fun w' hw' => rfl, ?_⟩; go_big_quiet_on))
        refine wpQuiet_nil ?_
        intro w1 hw1
        go_upto_region 6 with fail
        refine wp_region_lit ?_
        refine wpList_quiet_take (C := KV w [(22, w.heap.size, bcells X), (22, w.heap.size + 1, bcells zero16), (22, w.heap.size + 2, bcells (keepB X k))]) 3 hw1 ?_
        simp only [List.take, List.drop]
        repeat (first
          | go_big_quiet_skip
          | (go_big_quiet_want; apply Exists.intro; refine ⟨fun w' hw' => (by first | exact quietAt_part rfl rfl ty16 (hw'.at 0 rfl) (by rw [List.drop_zero, List.take_of_length_le (Nat.le_of_eq hs16)]) hs16 | exact quietAt_part rfl rfl ty16 (hw'.at 2 rfl) (by rw [List.drop_zero, List.take_of_length_le (Nat.le_of_eq hsK)]) hsK | fail), ?_⟩; simp only [Act.put, List.setIfInBounds_toArray, List.set_cons_zero, List.set_cons_succ]; go_big_quiet_on)
          | (go_big_quiet_want; go_big_quiet_op; go_big_quiet_on)
          | (go_big_quiet_want; go_big_quiet_op; apply Exists.intro; refine ⟨fun w' hw' => (by first | (with_reducible refine (CS.out w').mono ?_; rintro e w'' ⟨rfl, hb⟩; exact ⟨rfl, hw'.below hb⟩) | fail), ?_⟩; go_big_quiet_on)
          | (go_big_quiet_want; go_big_quiet_op; apply Exists.intro; refine ⟨fun w' hw' => rfl, ?_⟩; go_big_quiet_on))
        refine wpQuiet_nil ?_
        intro w2 hw2
        have a2 := Lib.hid (hw2.at 2 rfl)
        have KN := Lib.hid (hw2.store 2 rfl Y (by rw [hsN, hsK]))
        clear hw1 hw2 KK HS2 CB CS
        go_wp2_with (first | refine wpList_store_v rfl 22 (.tmp 5) (.tmp 18) rfl _ rfl ty16 a2.out hsK Y hsN HY1.out rfl ?_ | fail)
        rw [wk]
        go_roundw
        case rel => exact ⟨k + 1, hkn.out, rfl, by have h := KN.out; rw [← HYe.out]; exact h⟩
        case measure => have := hkn.out; simp [intOf]; omega
    · obtain rfl : k = n := by omega
      have hlti : ¬ ((k : Int) < (k : Int)) := by omega
      have a2 := Lib.hid (KK.out.at 2 rfl)
      have a1 := Lib.hid (KK.out.at 1 rfl)
      have K9 := Lib.hid (KK.out.store 1 rfl (bcells (keepB X k)) (by rw [hsK]; rfl))
      clear KK hk hlt hn
      obtain ⟨Y, hY⟩ : ∃ Y, Y = keepB X k := ⟨_, rfl⟩
      rw [← hY] at hsK a2 K9
      have HF : Hid (keepB X k = Y) := hY.symm
      clear hY
      go_upto_region 7 with fail
      refine wp_region_lit ?_
      go_wp2_with (first | refine wpList_load_v rfl 22 (.tmp 5) rfl _ rfl ty16 a2.out hsK ?_ | refine wpList_store_v rfl 22 (.tmp 4) (.tmp 19) rfl _ rfl ty16 a1.out rfl (bcells Y) hsK (bcells_one _) rfl ?_ | fail)
      exact bodyPost_ret (v := .agg (bcells Y).toArray) (res_cell Tryd.results26 rfl ((K9.out.at 1 rfl).loadVar ty16 hsK)) rfl ⟨by rw [HF.out], K9.out.bel⟩
end Go.Proofs.YtlkilkhnblmjaaaDoor
