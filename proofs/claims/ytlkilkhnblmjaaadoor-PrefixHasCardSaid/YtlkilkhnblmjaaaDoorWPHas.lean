/-
  The walk of PrefixHas.
-/
import Derived.Test.YtlkilkhnblmjaaaDoorLive7
import Derived.Test.YtlkilkhnblmjaaaDoorRPre4
import Derived.Test.YtlkilkhnblmjaaaDoorPfLift
namespace Go.Proofs.YtlkilkhnblmjaaaDoor
open Go.RowKit
set_option linter.unusedVariables false

set_option maxRecDepth 10000 in
set_option maxHeartbeats 6400000 in
theorem wphas (V : Int) (X : List Nat) (n V' : Int) (X' : List Nat) (n' : Int) (v : Int) (Y : List Nat) (w : World) (hT : Six w) (hX : Adr X) (hX' : Adr X') (hY : Adr Y) :
    Calls Tryd.prog 4 #[.agg (pcells V X n ++ pcells V' X' n').toArray, .int .i64 v, .agg (bcells Y).toArray] w fun e w' => e = .returned (.bool true) ∧ Below w.heap.size w w' := by
  have HP := Lib.hid (pc_parts V n hX.len)
  have HR := Lib.hid (pc_parts V' n' hX'.len)
  have HYl : Hid ((bcells Y).length = 16) := by show _ = _; rw [bcells_length, hY.len]
  have HYa : Hid (((bcells Y).drop 0).take 16 = bcells Y) := by show _ = _; rw [List.drop_zero, List.take_of_length_le (Nat.le_of_eq HYl.out)]
  have HT := Lib.hid hT
  have CH := Lib.hid (fun w => phas_any V X n v Y w hX hY)
  have CR := Lib.hid (fun w => rhas_any V X n v Y w hX hY)
  have CW := Lib.hid (fun w => pwithin_any V X n V' X' n' w hX hX')
  have C1 := Lib.hid (fun w => rwithin_any V X n V' X' n' w hX hX')
  have C2 := Lib.hid (fun w => rwithin_any V' X' n' V X n w hX' hX)
  have CM0 := Lib.hid (fun w => pmeet_any V X n V' X' n' w hX hX')
  have CM : Hid (∀ w, Calls Tryd.prog 19 #[.agg (pcells V X n).toArray, .agg (pcells V' X' n').toArray] w fun e w' => e = .returned (.bool (pwithin V X n V' X' n' || pwithin V' X' n' V X n)) ∧ Below w.heap.size w w') := CM0.out
  obtain ⟨P, hP⟩ : ∃ P, P = pcells V X n := ⟨_, rfl⟩
  obtain ⟨R, hR⟩ : ∃ R, R = pcells V' X' n' := ⟨_, rfl⟩
  rw [← hP] at HP CH CR CW C1 C2 CM ⊢
  rw [← hR] at HR CW C1 C2 CM ⊢
  obtain ⟨PP, hPP⟩ : ∃ PP, PP = P ++ R := ⟨_, rfl⟩
  have H0 : Hid ((PP.drop 0).take 18 = P) := by show _ = _; rw [hPP, List.drop_zero, List.take_left' HP.out.len]
  have H1 : Hid ((PP.drop 18).take 18 = R) := by show _ = _; rw [hPP, List.drop_left' HP.out.len, List.take_of_length_le (Nat.le_of_eq HR.out.len)]
  rw [← hPP]
  have K0 : Hid (KV w [(35, w.heap.size, PP), (22, w.heap.size + 1, bcells Y)] ((w.alloc (.cells PP.toArray 35)).alloc (.cells (bcells Y).toArray 22))) := KV.two w _ _ _ _
  have CL := Lib.hid live7
  clear hP hR hPP hT hX hX' hY CM0
  generalize phas V X n v Y = b0 at *
  generalize pwithin V X n V' X' n' = b1 at *
  generalize pwithin V' X' n' V X n = b2 at *
  cases b0 <;> cases b1 <;> cases b2
  all_goals
    go_enter Tryd.func4, Tryd.ntmps4
    go_upto_region 1 with fail
    refine wp_region_lit ?_
    refine wpList_quiet_all (C := KV w [(35, w.heap.size, PP), (22, w.heap.size + 1, bcells Y)]) K0.out ?_
    repeat (first
      | go_big_quiet_skip
      | (go_big_quiet_want; apply Exists.intro; refine ⟨fun w' hw' => (by first | exact quietAt_part (off := 0) rfl rfl typfx (hw'.at 0 rfl) H0.out HP.out.len | exact quietAt_part (off := 18) rfl rfl typfx (hw'.at 0 rfl) H1.out HR.out.len | exact quietAt_part rfl rfl ty16 (hw'.at 1 rfl) HYa.out HYl.out | fail), ?_⟩; simp only [Act.put, List.setIfInBounds_toArray, List.set_cons_zero, List.set_cons_succ]; go_big_quiet_on)
      | (go_big_quiet_want; go_big_quiet_op; go_big_quiet_on)
      | (go_big_quiet_want; go_big_quiet_op; apply Exists.intro; refine ⟨fun w' hw' => (by first | (with_reducible refine (C1.out w').mono ?_; rintro e w'' ⟨rfl, hb⟩; exact ⟨rfl, hw'.below hb⟩) | (with_reducible refine (C2.out w').mono ?_; rintro e w'' ⟨rfl, hb⟩; exact ⟨rfl, hw'.below hb⟩) | fail), ?_⟩; go_big_quiet_on)
      | (go_big_quiet_want; go_big_quiet_op; apply Exists.intro; refine ⟨fun w' hw' => rfl, ?_⟩; go_big_quiet_on))
    refine wpQuiet_nil ?_
    intro w1 hw1
    go_upto_region 2 with fail
    refine wp_region_lit ?_
    refine wpList_quiet_all (C := KV w [(35, w.heap.size, PP), (22, w.heap.size + 1, bcells Y)]) hw1 ?_
    repeat (first
      | go_big_quiet_skip
      | (go_big_quiet_want; apply Exists.intro; refine ⟨fun w' hw' => (by first | exact quietAt_part (off := 0) rfl rfl typfx (hw'.at 0 rfl) H0.out HP.out.len | exact quietAt_part (off := 18) rfl rfl typfx (hw'.at 0 rfl) H1.out HR.out.len | exact quietAt_part rfl rfl ty16 (hw'.at 1 rfl) HYa.out HYl.out | fail), ?_⟩; simp only [Act.put, List.setIfInBounds_toArray, List.set_cons_zero, List.set_cons_succ]; go_big_quiet_on)
      | (go_big_quiet_want; go_big_quiet_op; go_big_quiet_on)
      | (go_big_quiet_want; go_big_quiet_op; apply Exists.intro; refine ⟨fun w' hw' => (by first | (with_reducible refine (C1.out w').mono ?_; rintro e w'' ⟨rfl, hb⟩; exact ⟨rfl, hw'.below hb⟩) | (with_reducible refine (C2.out w').mono ?_; rintro e w'' ⟨rfl, hb⟩; exact ⟨rfl, hw'.below hb⟩) | fail), ?_⟩; go_big_quiet_on)
      | (go_big_quiet_want; go_big_quiet_op; apply Exists.intro; refine ⟨fun w' hw' => rfl, ?_⟩; go_big_quiet_on))
    refine wpQuiet_nil ?_
    intro w2 hw2
    go_upto_region 3 with fail
    refine wp_quiet_kv (C := KV w [(35, w.heap.size, PP), (22, w.heap.size + 1, bcells Y)]) (by kernel_rfl) (by kernel_rfl) hw2.drew ?_
    repeat (first
      | go_big_quiet_skip
      | (go_big_quiet_want; apply Exists.intro; refine ⟨fun w' hw' => (by first | exact quietAt_part (off := 0) rfl rfl typfx (hw'.at 0 rfl) H0.out HP.out.len | exact quietAt_part (off := 18) rfl rfl typfx (hw'.at 0 rfl) H1.out HR.out.len | exact quietAt_part rfl rfl ty16 (hw'.at 1 rfl) HYa.out HYl.out | fail), ?_⟩; simp only [Act.put, List.setIfInBounds_toArray, List.set_cons_zero, List.set_cons_succ]; go_big_quiet_on)
      | (go_big_quiet_want; go_big_quiet_op; go_big_quiet_on)
      | (go_big_quiet_want; go_big_quiet_op; apply Exists.intro; refine ⟨fun w' hw' => (by first | (with_reducible refine (CL.out w' (HT.out.below hw'.bel)).mono ?_; rintro e w'' ⟨rfl, hb⟩; exact ⟨rfl, hw'.below hb⟩) | (with_reducible refine (CH.out w').mono ?_; rintro e w'' ⟨rfl, hb⟩; exact ⟨rfl, hw'.below hb⟩) | (with_reducible refine (CR.out w').mono ?_; rintro e w'' ⟨rfl, hb⟩; exact ⟨rfl, hw'.below hb⟩) | (with_reducible refine (CW.out w').mono ?_; rintro e w'' ⟨rfl, hb⟩; exact ⟨rfl, hw'.below hb⟩) | (with_reducible refine (CM.out w').mono ?_; rintro e w'' ⟨rfl, hb⟩; exact ⟨rfl, hw'.below hb⟩) | fail), ?_⟩; go_big_quiet_on)
      | (go_big_quiet_want; go_big_quiet_op; apply Exists.intro; refine ⟨fun w' hw' => rfl, ?_⟩; go_big_quiet_on))
    refine wpQuiet_nil ?_
    intro w3 hw3
    have BB := Lib.hid hw3.bel
    clear hw1 hw2 hw3 K0
    go_wp2_with fail
    go_ret
    exact ⟨rfl, BB.out⟩
theorem walk_PrefixHas (V : Int) (X : List Nat) (n V' : Int) (X' : List Nat) (n' : Int) (v : Int) (zs : List Int) (w : World) (hT : Six w) (hX : Adr X) (hX' : Adr X') (lo : -9223372036854775808 ≤ v) (hi : v ≤ 9223372036854775807) (hn : zs.length = 16) (hz : ∀ z ∈ zs, (Lit.int .u8 z).wf = true) :
    Calls Tryd.prog 4 #[.agg (pcells V X n ++ pcells V' X' n').toArray, .int .i64 v, .agg (zs.map (Value.int .u8)).toArray] w fun e w' => e = .returned (.bool true) ∧ Below w.heap.size w w' := by
  obtain ⟨Y, hY, hl, hb⟩ := pf_bytes_of hz
  rw [hY]
  exact wphas V X n V' X' n' v Y w hT hX hX' ⟨hl.trans hn, hb⟩
end Go.Proofs.YtlkilkhnblmjaaaDoor
