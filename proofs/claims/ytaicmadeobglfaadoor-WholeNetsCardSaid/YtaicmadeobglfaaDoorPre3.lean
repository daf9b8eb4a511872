/-
  The contracts of prefix's Has, Within, Meet, Make, All.
-/
import Derived.Test.YtaicmadeobglfaaDoorPre2
import Derived.Test.YtaicmadeobglfaaDoorPar
namespace Go.Proofs.YtaicmadeobglfaaDoor
open Go.RowKit
set_option linter.unusedVariables false

/-- Whether an address has a prefix. -/
def phas (V : Int) (X : List Nat) (n : Int) (v : Int) (Y : List Nat) : Bool := decide (pcheck V X n = 0) && (decide (v = V) && decide (keepB Y n.toNat = X))
theorem pcheck_len {V : Int} {X : List Nat} {n : Int} (h : pcheck V X n = 0) : pfits V n = 0 := by
  unfold pcheck at h
  split at h
  · rename_i h1; exact absurd h h1
  · rename_i h1; exact Classical.not_not.1 h1
set_option maxRecDepth 10000 in
set_option maxHeartbeats 3200000 in
theorem phas_any (V : Int) (X : List Nat) (n v : Int) (Y : List Nat) (w : World) (hX : Adr X) (hY : Adr Y) : Calls Tryd.prog 6 #[.agg (pcells V X n).toArray, .int .i64 v, .agg (bcells Y).toArray] w fun e w' => e = .returned (.bool (phas V X n v Y)) ∧ Below w.heap.size w w' := by
  have HP := Lib.hid (pc_parts V n hX.len)
  have hs16 : (bcells X).length = 16 := by rw [bcells_length, hX.len]
  have hsY : (bcells Y).length = 16 := by rw [bcells_length, hY.len]
  have CC := Lib.hid (fun w => pcheck_any V X n w hX)
  obtain ⟨P, hP⟩ : ∃ P, P = pcells V X n := ⟨_, rfl⟩
  rw [← hP] at HP CC ⊢
  have K0 : Hid (KV w [(24, w.heap.size, P), (22, w.heap.size + 1, bcells Y)] ((w.alloc (.cells P.toArray 24)).alloc (.cells (bcells Y).toArray 22))) := KV.two w _ _ _ _
  clear hP
  by_cases hc : pcheck V X n = 0
  · by_cases hv : v = V
    · have hvb : (v == V) = true := by simpa using hv
      have hf := pcheck_len hc
      obtain ⟨hn0, hn1⟩ := pfits_ok hf
      obtain ⟨m, hm⟩ := Int.eq_ofNat_of_zero_le hn0
      have CK : Hid (∀ w, Calls Tryd.prog 13 #[.agg (bcells Y).toArray, .int .i64 n] w fun e w' => e = .returned (.agg (bcells (keepB Y m)).toArray) ∧ Below w.heap.size w w') := fun w => by
        rw [hm]; exact pkeep_any Y m w hY.len hY.lt (by omega)
      have hq := Lib.hid (same_nat Tryd.underlying22 (keepB Y m) X (keepB_len Y m) hX.len)
      have HF : Hid (phas V X n v Y = decide (keepB Y m = X)) := by show _ = _; unfold phas; rw [hc, hm]; simp [hv]
      rw [hc] at CC
      subst hv
      clear hc hf hn0 hn1 hm hX hY hvb
      generalize keepB Y m = K at *
      obtain ⟨bb, hbb⟩ : ∃ bb, bb = decide (K = X) := ⟨_, rfl⟩
      rw [← hbb] at hq HF
      clear hbb
      go_enter Tryd.func6, Tryd.ntmps6
      go_upto_region 1 with fail
      refine wp_quiet_kv (C := KV w [(24, w.heap.size, P), (22, w.heap.size + 1, bcells Y)]) (by kernel_rfl) (by kernel_rfl) K0.out.drew ?_
      repeat (first
        | go_big_quiet_skip
        | (go_big_quiet_want; apply Exists.intro; refine ⟨fun w' hw' => (by first | exact quietAt_part rfl rfl typfx (hw'.at 0 rfl) HP.out.all HP.out.len | exact quietAt_cell rfl rfl one_int (hw'.at 0 rfl) HP.out.v | exact quietAt_cell rfl rfl one_int (hw'.at 0 rfl) HP.out.n | exact quietAt_part rfl rfl ty16 (hw'.at 0 rfl) HP.out.addr hs16 | exact quietAt_part rfl rfl ty16 (hw'.at 1 rfl) (by rw [List.drop_zero, List.take_of_length_le (Nat.le_of_eq hsY)]) hsY | exact quietAt_eql rfl rfl rfl guard16 hq.out | fail), ?_⟩; simp only [Act.put, List.setIfInBounds_toArray, List.set_cons_zero, List.set_cons_succ]; go_big_quiet_on)
        | (go_big_quiet_want; go_big_quiet_op; go_big_quiet_on)
        | (go_big_quiet_want; go_big_quiet_op; apply Exists.intro; refine ⟨fun w' hw' => (by first | (refine (CC.out w').mono ?_; rintro e w'' ⟨rfl, hb⟩; exact ⟨rfl, hw'.below hb⟩) | (refine (CK.out w').mono ?_; rintro e w'' ⟨rfl, hb⟩; exact ⟨rfl, hw'.below hb⟩) | fail), ?_⟩; go_big_quiet_on)
        | (go_big_quiet_want; go_big_quiet_op; apply Exists.intro; refine ⟨fun w' hw' => rfl, ?_⟩; go_big_quiet_on))
      refine wpQuiet_nil ?_
      intro w1 hw1
      have BB := Lib.hid hw1.bel
      clear hw1 K0
      go_wp2_with fail
      go_ret
      exact ⟨by rw [HF.out]; rfl, BB.out⟩
    · have hvb : (v == V) = false := by simpa using hv
      have HF : Hid (phas V X n v Y = false) := by show _ = _; unfold phas; simp [hv]
      rw [hc] at CC
      clear hv hc hX hY
      go_enter Tryd.func6, Tryd.ntmps6
      go_upto_region 1 with fail
      refine wp_quiet_kv (C := KV w [(24, w.heap.size, P), (22, w.heap.size + 1, bcells Y)]) (by kernel_rfl) (by kernel_rfl) K0.out.drew ?_
      repeat (first
        | go_big_quiet_skip
        | (go_big_quiet_want; apply Exists.intro; refine ⟨fun w' hw' => (by first | exact quietAt_part rfl rfl typfx (hw'.at 0 rfl) HP.out.all HP.out.len | exact quietAt_cell rfl rfl one_int (hw'.at 0 rfl) HP.out.v | exact quietAt_cell rfl rfl one_int (hw'.at 0 rfl) HP.out.n | exact quietAt_part rfl rfl ty16 (hw'.at 0 rfl) HP.out.addr hs16 | exact quietAt_part rfl rfl ty16 (hw'.at 1 rfl) (by rw [List.drop_zero, List.take_of_length_le (Nat.le_of_eq hsY)]) hsY | fail), ?_⟩; simp only [Act.put, List.setIfInBounds_toArray, List.set_cons_zero, List.set_cons_succ]; go_big_quiet_on)
        | (go_big_quiet_want; go_big_quiet_op; go_big_quiet_on)
        | (go_big_quiet_want; go_big_quiet_op; apply Exists.intro; refine ⟨fun w' hw' => (by first | (refine (CC.out w').mono ?_; rintro e w'' ⟨rfl, hb⟩; exact ⟨rfl, hw'.below hb⟩) | fail), ?_⟩; go_big_quiet_on)
        | (go_big_quiet_want; go_big_quiet_op; apply Exists.intro; refine ⟨fun w' hw' => rfl, ?_⟩; go_big_quiet_on))
      refine wpQuiet_nil ?_
      intro w1 hw1
      have BB := Lib.hid hw1.bel
      clear hw1 K0
      go_wp2_with fail
      go_ret
      exact ⟨by rw [HF.out]; rfl, BB.out⟩
  · have HF : Hid (phas V X n v Y = false) := by show _ = _; unfold phas; simp [hc]
    have hcb : (pcheck V X n == 0) = false := by simpa using hc
    clear hc hX hY
    generalize pcheck V X n = f at *
    go_enter Tryd.func6, Tryd.ntmps6
    go_upto_region 1 with fail
    refine wp_quiet_kv (C := KV w [(24, w.heap.size, P), (22, w.heap.size + 1, bcells Y)]) (by kernel_rfl) (by kernel_rfl) K0.out.drew ?_
    repeat (first
      | go_big_quiet_skip
      | (go_big_quiet_want; apply Exists.intro; refine ⟨fun w' hw' => (by first | exact quietAt_part rfl rfl typfx (hw'.at 0 rfl) HP.out.all HP.out.len | exact quietAt_cell rfl rfl one_int (hw'.at 0 rfl) HP.out.v | exact quietAt_cell rfl rfl one_int (hw'.at 0 rfl) HP.out.n | exact quietAt_part rfl rfl ty16 (hw'.at 0 rfl) HP.out.addr hs16 | exact quietAt_part rfl rfl ty16 (hw'.at 1 rfl) (by rw [List.drop_zero, List.take_of_length_le (Nat.le_of_eq hsY)]) hsY | fail), ?_⟩; simp only [Act.put, List.setIfInBounds_toArray, List.set_cons_zero, List.set_cons_succ]; go_big_quiet_on)
      | (go_big_quiet_want; go_big_quiet_op; go_big_quiet_on)
      | (go_big_quiet_want; go_big_quiet_op; apply Exists.intro; refine ⟨fun w' hw' => (by first | (refine (CC.out w').mono ?_; rintro e w'' ⟨rfl, hb⟩; exact ⟨rfl, hw'.below hb⟩) | fail), ?_⟩; go_big_quiet_on)
      | (go_big_quiet_want; go_big_quiet_op; apply Exists.intro; refine ⟨fun w' hw' => rfl, ?_⟩; go_big_quiet_on))
    refine wpQuiet_nil ?_
    intro w1 hw1
    have BB := Lib.hid hw1.bel
    clear hw1 K0
    go_wp2_with fail
    go_ret
    exact ⟨by rw [HF.out]; rfl, BB.out⟩
end Go.Proofs.YtaicmadeobglfaaDoor
