/-
  The contracts of prefix's Make and All.
-/
import Derived.Test.YtlkilkhnblmjaaaDoorPre4
namespace Go.Proofs.YtlkilkhnblmjaaaDoor
open Go.RowKit
set_option linter.unusedVariables false

theorem zero18_len : (pcells 0 zero16 0).length = 18 := rfl
theorem zero18_one : ∀ v ∈ pcells 0 zero16 0, v.oneCell' = true := (pc_parts 0 0 rfl).one
/-- The prefix of so many bits that an address has; the zero prefix where there is none. -/
def pmake (v : Int) (X : List Nat) (n : Int) : List Value := if pfits v n = 0 then pcells v (keepB X n.toNat) n else pcells 0 zero16 0
set_option maxRecDepth 10000 in
set_option maxHeartbeats 3200000 in
theorem pmake_any (v : Int) (X : List Nat) (n : Int) (w : World) (hX : Adr X) : Calls Tryd.prog 6 #[.int .i64 v, .agg (bcells X).toArray, .int .i64 n] w fun e w' => e = .returned (.tuple #[.agg (pmake v X n).toArray, .int .i64 (pfits v n)]) ∧ Below w.heap.size w w' := by
  have hs16 : (bcells X).length = 16 := by rw [bcells_length, hX.len]
  have CF : Hid (∀ w, Calls Tryd.prog 23 #[.int .i64 v, .int .i64 n] w fun e w' => e = .returned (.int .i64 (pfits v n)) ∧ Below w.heap.size w w') := fun w => (pfits_any v n w).mono fun e w' ⟨h1, h2⟩ => ⟨h1, by subst h2; exact Below.refl _ _⟩
  have K0 : Hid (KV w [(22, w.heap.size, bcells X), (24, w.heap.size + 1, pcells 0 zero16 0)] ((w.alloc (.cells (bcells X).toArray 22)).alloc (.cells (pcells 0 zero16 0).toArray 24))) := KV.two w _ _ _ _
  by_cases hf : pfits v n = 0
  · obtain ⟨hn0, hn1⟩ := pfits_ok hf
    obtain ⟨m, hm⟩ := Int.eq_ofNat_of_zero_le hn0
    have CK : Hid (∀ w, Calls Tryd.prog 24 #[.agg (bcells X).toArray, .int .i64 n] w fun e w' => e = .returned (.agg (bcells (keepB X m)).toArray) ∧ Below w.heap.size w w') := fun w => by
      rw [hm]; exact pkeep_any X m w hX.len hX.lt (by omega)
    have HF : Hid (pmake v X n = pcells v (keepB X m) n) := by show _ = _; unfold pmake; rw [if_pos hf, hm]; rfl
    have HK := Lib.hid (keepB_len X m)
    have HR := Lib.hid (pc_parts v n (keepB_len X m))
    rw [hf] at CF ⊢
    clear hf hn0 hn1 hm hX
    generalize keepB X m = K at *
    go_enter Tryd.func6, Tryd.ntmps6
    go_upto_region 1 with fail
    refine wp_region_lit ?_
    refine wpList_quiet_all (C := KV w [(22, w.heap.size, bcells X), (24, w.heap.size + 1, pcells 0 zero16 0)]) K0.out ?_
    repeat (first
      | go_big_quiet_skip
      | (go_big_quiet_want; apply Exists.intro; refine ⟨fun w' hw' => (by first | exact quietAt_part rfl rfl ty16 (hw'.at 0 rfl) (by rw [List.drop_zero, List.take_of_length_le (Nat.le_of_eq hs16)]) hs16 | fail), ?_⟩; simp only [Act.put, List.setIfInBounds_toArray, List.set_cons_zero, List.set_cons_succ]; go_big_quiet_on)
      | (go_big_quiet_want; go_big_quiet_op; go_big_quiet_on)
      | (go_big_quiet_want; go_big_quiet_op; apply Exists.intro; refine ⟨fun w' hw' => (by first | (with_reducible refine (CF.out w').mono ?_; rintro e w'' ⟨rfl, hb⟩; exact ⟨rfl, hw'.below hb⟩) | fail), ?_⟩; go_big_quiet_on)
      | (go_big_quiet_want; go_big_quiet_op; apply Exists.intro; refine ⟨fun w' hw' => rfl, ?_⟩; go_big_quiet_on))
    refine wpQuiet_nil ?_
    intro w1 hw1
    go_upto_region 4 with fail
    refine wp_region_lit ?_
    refine wpList_quiet_take (C := KV w [(22, w.heap.size, bcells X), (24, w.heap.size + 1, pcells 0 zero16 0)]) 6 hw1 ?_
    simp only [List.take, List.drop]
    repeat (first
      | go_big_quiet_skip
      | (go_big_quiet_want; apply Exists.intro; refine ⟨fun w' hw' => (by first | exact quietAt_part rfl rfl ty16 (hw'.at 0 rfl) (by rw [List.drop_zero, List.take_of_length_le (Nat.le_of_eq hs16)]) hs16 | exact quietAt_pfx rfl rfl rfl rfl HK.out | fail), ?_⟩; simp only [Act.put, List.setIfInBounds_toArray, List.set_cons_zero, List.set_cons_succ]; go_big_quiet_on)
      | (go_big_quiet_want; go_big_quiet_op; go_big_quiet_on)
      | (go_big_quiet_want; go_big_quiet_op; apply Exists.intro; refine ⟨fun w' hw' => (by first | (with_reducible refine (CK.out w').mono ?_; rintro e w'' ⟨rfl, hb⟩; exact ⟨rfl, hw'.below hb⟩) | fail), ?_⟩; go_big_quiet_on)
      | (go_big_quiet_want; go_big_quiet_op; apply Exists.intro; refine ⟨fun w' hw' => rfl, ?_⟩; go_big_quiet_on))
    refine wpQuiet_nil ?_
    intro w2 hw2
    clear hw1
    go_wp2_with (first | refine wpList_store_v rfl 24 (.tmp 6) (.tmp 21) rfl _ rfl typfx (hw2.at 1 rfl) zero18_len (pcells v K n) HR.out.len HR.out.one rfl ?_ | fail)
    have hw3 := hw2.store 1 rfl (pcells v K n) (by rw [HR.out.len]; rfl)
    exact bodyPost_ret (v := .tuple #[.agg (pcells v K n).toArray, .int .i64 0]) (res_cell_tmp Tryd.results6 rfl ((hw3.at 1 rfl).loadVar typfx HR.out.len) rfl) rfl ⟨by rw [HF.out], hw3.bel⟩
  · have hfb : (pfits v n != 0) = true := by simpa using hf
    have HF : Hid (pmake v X n = pcells 0 zero16 0) := by show _ = _; unfold pmake; rw [if_neg hf]
    clear hf hX
    generalize pfits v n = f at *
    go_enter Tryd.func6, Tryd.ntmps6
    go_upto_region 1 with fail
    refine wp_region_lit ?_
    refine wpList_quiet_all (C := KV w [(22, w.heap.size, bcells X), (24, w.heap.size + 1, pcells 0 zero16 0)]) K0.out ?_
    repeat (first
      | go_big_quiet_skip
      | (go_big_quiet_want; apply Exists.intro; refine ⟨fun w' hw' => (by first | exact quietAt_part rfl rfl ty16 (hw'.at 0 rfl) (by rw [List.drop_zero, List.take_of_length_le (Nat.le_of_eq hs16)]) hs16 | fail), ?_⟩; simp only [Act.put, List.setIfInBounds_toArray, List.set_cons_zero, List.set_cons_succ]; go_big_quiet_on)
      | (go_big_quiet_want; go_big_quiet_op; go_big_quiet_on)
      | (go_big_quiet_want; go_big_quiet_op; apply Exists.intro; refine ⟨fun w' hw' => (by first | (with_reducible refine (CF.out w').mono ?_; rintro e w'' ⟨rfl, hb⟩; exact ⟨rfl, hw'.below hb⟩) | fail), ?_⟩; go_big_quiet_on)
      | (go_big_quiet_want; go_big_quiet_op; apply Exists.intro; refine ⟨fun w' hw' => rfl, ?_⟩; go_big_quiet_on))
    refine wpQuiet_nil ?_
    intro w1 hw1
    go_wp2_with (first | refine wpList_store_v rfl 24 (.tmp 6) (.tmp 14) rfl _ rfl typfx (hw1.at 1 rfl) zero18_len (pcells 0 zero16 0) zero18_len zero18_one rfl ?_ | fail)
    have hw3 := hw1.store 1 rfl (pcells 0 zero16 0) rfl
    exact bodyPost_ret (v := .tuple #[.agg (pcells 0 zero16 0).toArray, .int .i64 f]) (res_cell_tmp Tryd.results6 rfl ((hw3.at 1 rfl).loadVar typfx zero18_len) rfl) rfl ⟨by rw [HF.out], hw3.bel⟩
set_option maxRecDepth 10000 in
theorem pall_any (v : Int) (w : World) : Calls Tryd.prog 22 #[.int .i64 v] w fun e w' => e = .returned (.agg (pcells v zero16 0).toArray) ∧ Below w.heap.size w w' := by
  have K0 : Hid (KV w [(24, w.heap.size, pcells 0 zero16 0)] (w.alloc (.cells (pcells 0 zero16 0).toArray 24))) := KV.one w _ _
  have HR := Lib.hid (pc_parts v 0 (X := zero16) rfl)
  go_enter Tryd.func22, Tryd.ntmps22
  go_wp2_with (first | refine wpList_store_v rfl 24 (.tmp 2) (.tmp 4) rfl _ rfl typfx (K0.out.at 0 rfl) zero18_len (pcells v zero16 0) HR.out.len HR.out.one rfl ?_ | fail)
  have hw3 := K0.out.store 0 rfl (pcells v zero16 0) rfl
  exact bodyPost_ret (v := .agg (pcells v zero16 0).toArray) (res_cell Tryd.results22 rfl ((hw3.at 0 rfl).loadVar typfx HR.out.len)) rfl ⟨rfl, hw3.bel⟩
end Go.Proofs.YtlkilkhnblmjaaaDoor
