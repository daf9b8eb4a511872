/-
  The walk of PrefixChecks.
-/
import Derived.Test.YtlkilkhnblmjaaaDoorLive7
import Derived.Test.YtlkilkhnblmjaaaDoorRPre7
import Derived.Test.YtlkilkhnblmjaaaDoorPfLift
namespace Go.Proofs.YtlkilkhnblmjaaaDoor
open Go.RowKit
set_option linter.unusedVariables false

/-- A list of cells that is a prefix, whichever. -/
def PfxV (l : List Value) : Prop := ∃ V X n, PfxL l V X n
theorem PfxV.len {l : List Value} (h : PfxV l) : l.length = 18 ∧ ∀ v ∈ l, v.oneCell' = true := by
  obtain ⟨V, X, n, h⟩ := h
  rw [h.is]
  exact ⟨(pc_parts V n h.adr.len).len, (pc_parts V n h.adr.len).one⟩
theorem PfxV.all {l : List Value} (h : PfxV l) : (l.drop 0).take 18 = l := by rw [List.drop_zero, List.take_of_length_le (Nat.le_of_eq h.len.1)]
theorem PfxV.same {l : List Value} (h : PfxV l) (w : World) : (Op.equalIn 10000 24 (.agg l.toArray) (.agg l.toArray)).run Tryd.prog w = .ok true w := by
  obtain ⟨V, X, n, h⟩ := h
  rw [h.is]
  have h2 := pfx_same h.adr h.adr h.v h.n h.v h.n w
  rw [decide_eq_true ⟨rfl, rfl, rfl⟩] at h2
  exact h2
theorem PfxV.zero : PfxV (pcells 0 zero16 0) := ⟨0, zero16, 0, ⟨rfl, zero_adr, by decide, by decide⟩⟩
theorem pmake_val {v : Int} {Y : List Nat} {n : Int} (hv : -9223372036854775808 ≤ v ∧ v ≤ 9223372036854775807) (hn : -9223372036854775808 ≤ n ∧ n ≤ 9223372036854775807) : PfxV (pmake v Y n) := by
  unfold pmake
  split
  · exact ⟨v, _, n, ⟨rfl, keepB_adr _, hv, hn⟩⟩
  · exact PfxV.zero
theorem phalf_n {V : Int} {X : List Nat} {n : Int} (h : phalfB V X n = true) : 0 ≤ n ∧ n ≤ 128 := by
  unfold phalfB at h
  simp at h
  exact pfits_ok (pcheck_len h.1)
theorem plow_val {V : Int} {X : List Nat} {n : Int} (hX : Adr X) (hv : -9223372036854775808 ≤ V ∧ V ≤ 9223372036854775807) : PfxV (plow V X n) := by
  unfold plow
  split
  · rename_i h
    have := phalf_n h
    exact ⟨V, X, n + 1, ⟨rfl, hX, hv, by omega⟩⟩
  · exact PfxV.zero
theorem highB_adr {X : List Nat} {m : Nat} (hX : Adr X) : Adr (highB X m) := by
  refine ⟨by unfold highB; rw [List.length_set, hX.len], fun x hx => ?_⟩
  unfold highB at hx
  rcases List.mem_or_eq_of_mem_set hx with h | h
  · exact hX.lt x h
  · rw [h]
    exact Nat.or_lt_two_pow (n := 8) (hX.at _) (Nat.lt_of_le_of_lt (Nat.div_le_self _ _) (by decide))
theorem phigh_val {V : Int} {X : List Nat} {n : Int} (hX : Adr X) (hv : -9223372036854775808 ≤ V ∧ V ≤ 9223372036854775807) : PfxV (phigh V X n) := by
  unfold phigh
  split
  · rename_i h
    have := phalf_n h
    exact ⟨V, _, n + 1, ⟨rfl, highB_adr hX, hv, by omega⟩⟩
  · exact PfxV.zero
theorem plast_adr {V : Int} {X : List Nat} {n : Int} (hX : Adr X) : Adr (plast V X n) := by
  unfold plast
  split
  · exact fillB_adr hX _ _
  · exact zero_adr
set_option maxRecDepth 10000 in
set_option maxHeartbeats 12800000 in
theorem wpchecks (V : Int) (X : List Nat) (n : Int) (Y : List Nat) (x0 x1 : Int) (w : World) (hT : Six w) (hX : Adr X) (hV : -9223372036854775808 ≤ V ∧ V ≤ 9223372036854775807) (hY : Adr Y) (h0 : -9223372036854775808 ≤ x0 ∧ x0 ≤ 9223372036854775807) (h1 : -9223372036854775808 ≤ x1 ∧ x1 ≤ 9223372036854775807) :
    Calls Tryd.prog 3 #[.agg (pcells V X n).toArray, .agg (bcells Y).toArray, .agg #[.int .i64 x0, .int .i64 x1]] w fun e w' => e = .returned (.bool true) ∧ Below w.heap.size w w' := by
  have HP := Lib.hid (pc_parts V n hX.len)
  have HYl : Hid ((bcells Y).length = 16) := by show _ = _; rw [bcells_length, hY.len]
  have HYa : Hid (((bcells Y).drop 0).take 16 = bcells Y) := by show _ = _; rw [List.drop_zero, List.take_of_length_le (Nat.le_of_eq HYl.out)]
  have HT := Lib.hid hT
  have CM := Lib.hid (fun w => pmake_any x0 Y x1 w hY)
  have CN := Lib.hid (fun w => rmake_any x0 Y x1 w hY)
  have CH := Lib.hid (fun w => phalves_any V X n w hX)
  have CI := Lib.hid (fun w => rhalves_any V X n w hX)
  have CC := Lib.hid (fun w => pcheck_any V X n w hX)
  have CD := Lib.hid (fun w => rcheck_any V X n w hX)
  have CE := Lib.hid (fun w => plast_any V X n w hX)
  have CF := Lib.hid (fun w => rlast_any V X n w hX)
  have CL := Lib.hid live7
  have vM := pmake_val (Y := Y) h0 h1
  have vL := plow_val (n := n) hX hV
  have vH := phigh_val (n := n) hX hV
  have HM := Lib.hid vM.len
  have HMa := Lib.hid vM.all
  have HLO := Lib.hid vL.len
  have HLOa := Lib.hid vL.all
  have HHI := Lib.hid vH.len
  have HHIa := Lib.hid vH.all
  have q1 := Lib.hid vM.same
  have q2 := Lib.hid vL.same
  have q3 := Lib.hid vH.same
  have q4 : Hid (∀ w, (Op.equalIn 10000 22 (.agg (bcells (plast V X n)).toArray) (.agg (bcells (plast V X n)).toArray)).run Tryd.prog w = .ok true w) := fun w => by
    have h := same_nat Tryd.underlying22 (plast V X n) (plast V X n) (plast_adr hX).len (plast_adr hX).len w
    rw [decide_eq_true rfl] at h
    exact h
  clear vM vL vH hT hX hY hV h0 h1
  obtain ⟨P, hP⟩ : ∃ P, P = pcells V X n := ⟨_, rfl⟩
  rw [← hP] at HP CH CI CC CD CE CF ⊢
  have K0 : Hid (KV w [(24, w.heap.size, P), (22, w.heap.size + 1, bcells Y), (25, w.heap.size + 2, [.int .i64 x0, .int .i64 x1])] (((w.alloc (.cells P.toArray 24)).alloc (.cells (bcells Y).toArray 22)).alloc (.cells [.int .i64 x0, .int .i64 x1].toArray 25))) := KV.three w _ _ _ _ _ _
  clear hP
  generalize pmake x0 Y x1 = M at *
  generalize plow V X n = LO at *
  generalize phigh V X n = HI at *
  generalize plast V X n = LA at *
  generalize pcheck V X n = cc at *
  generalize pfits x0 x1 = ff at *
  have ecc : (cc == cc) = true := by simp
  have eff : (ff == ff) = true := by simp
  generalize phalfB V X n = bb at *
  cases bb
  all_goals
    go_enter Tryd.func3, Tryd.ntmps3
    go_upto_region 1 with fail
    refine wp_region_lit ?_
    refine wpList_quiet_take (C := KV w [(24, w.heap.size, P), (22, w.heap.size + 1, bcells Y), (25, w.heap.size + 2, [.int .i64 x0, .int .i64 x1])]) 9 K0.out ?_
    simp only [List.take, List.drop]
    repeat (first
      | go_big_quiet_skip
      | (go_big_quiet_want; apply Exists.intro; refine ⟨fun w' hw' => (by first | exact quietAt_part rfl rfl typfx (hw'.at 0 rfl) HP.out.all HP.out.len | exact quietAt_part rfl rfl ty16 (hw'.at 1 rfl) HYa.out HYl.out | exact quietAt_cell (j := 0) rfl rfl one_int (hw'.at 2 rfl) rfl | exact quietAt_cell (j := 1) rfl rfl one_int (hw'.at 2 rfl) rfl | fail), ?_⟩; simp only [Act.put, List.setIfInBounds_toArray, List.set_cons_zero, List.set_cons_succ]; go_big_quiet_on)
      | (go_big_quiet_want; go_big_quiet_op; go_big_quiet_on)
      | (go_big_quiet_want; go_big_quiet_op; apply Exists.intro; refine ⟨fun w' hw' => (by first | (with_reducible refine (CM.out w').mono ?_; rintro e w'' ⟨rfl, hb⟩; exact ⟨rfl, hw'.below hb⟩) | fail), ?_⟩; go_big_quiet_on)
      | (go_big_quiet_want; go_big_quiet_op; apply Exists.intro; refine ⟨fun w' hw' => rfl, ?_⟩; go_big_quiet_on))
    refine wpQuiet_nil ?_
    intro w1 hw1
    have k1 : Hid (KV w [(24, w.heap.size, P), (22, w.heap.size + 1, bcells Y), (25, w.heap.size + 2, [.int .i64 x0, .int .i64 x1]), (24, w1.heap.size, M)] ((w1.alloc (.cells (pcells 0 zero16 0).toArray 24)).setCells w1.heap.size 0 M)) := (hw1.new 24 (pcells 0 zero16 0)).store 3 rfl M (by rw [HM.out.1]; rfl)
    have a1 := Lib.hid ((hw1.new 24 (pcells 0 zero16 0)).at 3 rfl)
    clear hw1
    go_upto_region 2 with (first | refine wpList_store_v rfl 24 (.tmp 7) (.tmp 24) rfl _ rfl typfx a1.out zero18_len M HM.out.1 HM.out.2 rfl ?_ | fail)
    try simp only [Act.put]
    refine wp_region_lit ?_
    refine wpList_quiet_take (C := KV w [(24, w.heap.size, P), (22, w.heap.size + 1, bcells Y), (25, w.heap.size + 2, [.int .i64 x0, .int .i64 x1]), (24, w1.heap.size, M)]) 9 k1.out ?_
    simp only [List.take, List.drop]
    repeat (first
      | go_big_quiet_skip
      | (go_big_quiet_want; apply Exists.intro; refine ⟨fun w' hw' => (by first | exact quietAt_part rfl rfl typfx (hw'.at 0 rfl) HP.out.all HP.out.len | exact quietAt_part rfl rfl ty16 (hw'.at 1 rfl) HYa.out HYl.out | exact quietAt_cell (j := 0) rfl rfl one_int (hw'.at 2 rfl) rfl | exact quietAt_cell (j := 1) rfl rfl one_int (hw'.at 2 rfl) rfl | fail), ?_⟩; simp only [Act.put, List.setIfInBounds_toArray, List.set_cons_zero, List.set_cons_succ]; go_big_quiet_on)
      | (go_big_quiet_want; go_big_quiet_op; go_big_quiet_on)
      | (go_big_quiet_want; go_big_quiet_op; apply Exists.intro; refine ⟨fun w' hw' => (by first | (with_reducible refine (CN.out w').mono ?_; rintro e w'' ⟨rfl, hb⟩; exact ⟨rfl, hw'.below hb⟩) | fail), ?_⟩; go_big_quiet_on)
      | (go_big_quiet_want; go_big_quiet_op; apply Exists.intro; refine ⟨fun w' hw' => rfl, ?_⟩; go_big_quiet_on))
    refine wpQuiet_nil ?_
    intro w2 hw2
    have k2 : Hid (KV w [(24, w.heap.size, P), (22, w.heap.size + 1, bcells Y), (25, w.heap.size + 2, [.int .i64 x0, .int .i64 x1]), (24, w1.heap.size, M), (24, w2.heap.size, M)] ((w2.alloc (.cells (pcells 0 zero16 0).toArray 24)).setCells w2.heap.size 0 M)) := (hw2.new 24 (pcells 0 zero16 0)).store 4 rfl M (by rw [HM.out.1]; rfl)
    have a2 := Lib.hid ((hw2.new 24 (pcells 0 zero16 0)).at 4 rfl)
    clear hw2
    go_upto_region 3 with (first | refine wpList_store_v rfl 24 (.tmp 9) (.tmp 33) rfl _ rfl typfx a2.out zero18_len M HM.out.1 HM.out.2 rfl ?_ | fail)
    try simp only [Act.put]
    refine wp_region_lit ?_
    refine wpList_quiet_take (C := KV w [(24, w.heap.size, P), (22, w.heap.size + 1, bcells Y), (25, w.heap.size + 2, [.int .i64 x0, .int .i64 x1]), (24, w1.heap.size, M), (24, w2.heap.size, M)]) 6 k2.out ?_
    simp only [List.take, List.drop]
    repeat (first
      | go_big_quiet_skip
      | (go_big_quiet_want; apply Exists.intro; refine ⟨fun w' hw' => (by first | exact quietAt_part rfl rfl typfx (hw'.at 0 rfl) HP.out.all HP.out.len | exact quietAt_part rfl rfl ty16 (hw'.at 1 rfl) HYa.out HYl.out | exact quietAt_cell (j := 0) rfl rfl one_int (hw'.at 2 rfl) rfl | exact quietAt_cell (j := 1) rfl rfl one_int (hw'.at 2 rfl) rfl | fail), ?_⟩; simp only [Act.put, List.setIfInBounds_toArray, List.set_cons_zero, List.set_cons_succ]; go_big_quiet_on)
      | (go_big_quiet_want; go_big_quiet_op; go_big_quiet_on)
      | (go_big_quiet_want; go_big_quiet_op; apply Exists.intro; refine ⟨fun w' hw' => (by first | (with_reducible refine (CH.out w').mono ?_; rintro e w'' ⟨rfl, hb⟩; exact ⟨rfl, hw'.below hb⟩) | fail), ?_⟩; go_big_quiet_on)
      | (go_big_quiet_want; go_big_quiet_op; apply Exists.intro; refine ⟨fun w' hw' => rfl, ?_⟩; go_big_quiet_on))
    refine wpQuiet_nil ?_
    intro w3 hw3
    have m0 := Lib.hid (hw3.new2 24 24 (pcells 0 zero16 0) (pcells 0 zero16 0))
    have m1 := Lib.hid (m0.out.store 5 rfl LO (by rw [HLO.out.1]; rfl))
    have k3 : Hid (KV w [(24, w.heap.size, P), (22, w.heap.size + 1, bcells Y), (25, w.heap.size + 2, [.int .i64 x0, .int .i64 x1]), (24, w1.heap.size, M), (24, w2.heap.size, M), (24, w3.heap.size, LO), (24, w3.heap.size + 1, HI)] ((((w3.alloc (.cells (pcells 0 zero16 0).toArray 24)).alloc (.cells (pcells 0 zero16 0).toArray 24)).setCells w3.heap.size 0 LO).setCells (w3.heap.size + 1) 0 HI)) := m1.out.store 6 rfl HI (by rw [HHI.out.1]; rfl)
    have a3 := Lib.hid (m0.out.at 5 rfl)
    have b3 := Lib.hid (m1.out.at 6 rfl)
    clear hw3 m0 m1
    go_upto_region 4 with (first | refine wpList_store_v rfl 24 (.tmp 11) (.tmp 38) rfl _ rfl typfx a3.out zero18_len LO HLO.out.1 HLO.out.2 rfl ?_ | refine wpList_store_v rfl 24 (.tmp 12) (.tmp 39) rfl _ rfl typfx b3.out zero18_len HI HHI.out.1 HHI.out.2 rfl ?_ | fail)
    try simp only [Act.put]
    refine wp_region_lit ?_
    refine wpList_quiet_take (C := KV w [(24, w.heap.size, P), (22, w.heap.size + 1, bcells Y), (25, w.heap.size + 2, [.int .i64 x0, .int .i64 x1]), (24, w1.heap.size, M), (24, w2.heap.size, M), (24, w3.heap.size, LO), (24, w3.heap.size + 1, HI)]) 6 k3.out ?_
    simp only [List.take, List.drop]
    repeat (first
      | go_big_quiet_skip
      | (go_big_quiet_want; apply Exists.intro; refine ⟨fun w' hw' => (by first | exact quietAt_part rfl rfl typfx (hw'.at 0 rfl) HP.out.all HP.out.len | exact quietAt_part rfl rfl ty16 (hw'.at 1 rfl) HYa.out HYl.out | exact quietAt_cell (j := 0) rfl rfl one_int (hw'.at 2 rfl) rfl | exact quietAt_cell (j := 1) rfl rfl one_int (hw'.at 2 rfl) rfl | fail), ?_⟩; simp only [Act.put, List.setIfInBounds_toArray, List.set_cons_zero, List.set_cons_succ]; go_big_quiet_on)
      | (go_big_quiet_want; go_big_quiet_op; go_big_quiet_on)
      | (go_big_quiet_want; go_big_quiet_op; apply Exists.intro; refine ⟨fun w' hw' => (by first | (with_reducible refine (CI.out w').mono ?_; rintro e w'' ⟨rfl, hb⟩; exact ⟨rfl, hw'.below hb⟩) | fail), ?_⟩; go_big_quiet_on)
      | (go_big_quiet_want; go_big_quiet_op; apply Exists.intro; refine ⟨fun w' hw' => rfl, ?_⟩; go_big_quiet_on))
    refine wpQuiet_nil ?_
    intro w4 hw4
    have m0 := Lib.hid (hw4.new2 24 24 (pcells 0 zero16 0) (pcells 0 zero16 0))
    have m1 := Lib.hid (m0.out.store 7 rfl LO (by rw [HLO.out.1]; rfl))
    have k4 : Hid (KV w [(24, w.heap.size, P), (22, w.heap.size + 1, bcells Y), (25, w.heap.size + 2, [.int .i64 x0, .int .i64 x1]), (24, w1.heap.size, M), (24, w2.heap.size, M), (24, w3.heap.size, LO), (24, w3.heap.size + 1, HI), (24, w4.heap.size, LO), (24, w4.heap.size + 1, HI)] ((((w4.alloc (.cells (pcells 0 zero16 0).toArray 24)).alloc (.cells (pcells 0 zero16 0).toArray 24)).setCells w4.heap.size 0 LO).setCells (w4.heap.size + 1) 0 HI)) := m1.out.store 8 rfl HI (by rw [HHI.out.1]; rfl)
    have a4 := Lib.hid (m0.out.at 7 rfl)
    have b4 := Lib.hid (m1.out.at 8 rfl)
    clear hw4 m0 m1
    go_upto_region 5 with (first | refine wpList_store_v rfl 24 (.tmp 14) (.tmp 44) rfl _ rfl typfx a4.out zero18_len LO HLO.out.1 HLO.out.2 rfl ?_ | refine wpList_store_v rfl 24 (.tmp 15) (.tmp 45) rfl _ rfl typfx b4.out zero18_len HI HHI.out.1 HHI.out.2 rfl ?_ | fail)
    try simp only [Act.put]
    refine wp_quiet_kv (C := KV w [(24, w.heap.size, P), (22, w.heap.size + 1, bcells Y), (25, w.heap.size + 2, [.int .i64 x0, .int .i64 x1]), (24, w1.heap.size, M), (24, w2.heap.size, M), (24, w3.heap.size, LO), (24, w3.heap.size + 1, HI), (24, w4.heap.size, LO), (24, w4.heap.size + 1, HI)]) (by kernel_rfl) (by kernel_rfl) k4.out.drew ?_
    repeat (first
      | go_big_quiet_skip
      | (go_big_quiet_want; apply Exists.intro; refine ⟨fun w' hw' => (by first | exact quietAt_part rfl rfl typfx (hw'.at 0 rfl) HP.out.all HP.out.len | exact quietAt_part rfl rfl ty16 (hw'.at 1 rfl) HYa.out HYl.out | exact quietAt_cell (j := 0) rfl rfl one_int (hw'.at 2 rfl) rfl | exact quietAt_cell (j := 1) rfl rfl one_int (hw'.at 2 rfl) rfl | exact quietAt_part (off := 0) rfl rfl typfx (hw'.at 3 rfl) HMa.out HM.out.1 | exact quietAt_part (off := 0) rfl rfl typfx (hw'.at 4 rfl) HMa.out HM.out.1 | exact quietAt_part (off := 0) rfl rfl typfx (hw'.at 5 rfl) HLOa.out HLO.out.1 | exact quietAt_part (off := 0) rfl rfl typfx (hw'.at 6 rfl) HHIa.out HHI.out.1 | exact quietAt_part (off := 0) rfl rfl typfx (hw'.at 7 rfl) HLOa.out HLO.out.1 | exact quietAt_part (off := 0) rfl rfl typfx (hw'.at 8 rfl) HHIa.out HHI.out.1 | exact quietAt_eql rfl rfl rfl guardpfx q1.out | exact quietAt_eql rfl rfl rfl guardpfx q2.out | exact quietAt_eql rfl rfl rfl guardpfx q3.out | exact quietAt_eql rfl rfl rfl guard16 q4.out | fail), ?_⟩; simp only [Act.put, List.setIfInBounds_toArray, List.set_cons_zero, List.set_cons_succ]; go_big_quiet_on)
      | (go_big_quiet_want; go_big_quiet_op; go_big_quiet_on)
      | (go_big_quiet_want; go_big_quiet_op; apply Exists.intro; refine ⟨fun w' hw' => (by first | (with_reducible refine (CL.out w' (HT.out.below hw'.bel)).mono ?_; rintro e w'' ⟨rfl, hb⟩; exact ⟨rfl, hw'.below hb⟩) | (with_reducible refine (CC.out w').mono ?_; rintro e w'' ⟨rfl, hb⟩; exact ⟨rfl, hw'.below hb⟩) | (with_reducible refine (CD.out w').mono ?_; rintro e w'' ⟨rfl, hb⟩; exact ⟨rfl, hw'.below hb⟩) | (with_reducible refine (CE.out w').mono ?_; rintro e w'' ⟨rfl, hb⟩; exact ⟨rfl, hw'.below hb⟩) | (with_reducible refine (CF.out w').mono ?_; rintro e w'' ⟨rfl, hb⟩; exact ⟨rfl, hw'.below hb⟩) | fail), ?_⟩; go_big_quiet_on)
      | (go_big_quiet_want; go_big_quiet_op; apply Exists.intro; refine ⟨fun w' hw' => rfl, ?_⟩; go_big_quiet_on))
    refine wpQuiet_nil ?_
    intro w5 hw5
    have BB := Lib.hid hw5.bel
    clear hw5
    go_wp2_with fail
    go_ret
    exact ⟨rfl, BB.out⟩
theorem two_of {zs : List Int} (h : zs.length = 2) : ∃ a b, zs = [a, b] := by
  match zs, h with
  | [a, b], _ => exact ⟨a, b, rfl⟩
theorem walk_PrefixChecks (V : Int) (X : List Nat) (n : Int) (zs1 zs2 : List Int) (w : World) (hT : Six w) (hX : Adr X) (hV : -9223372036854775808 ≤ V ∧ V ≤ 9223372036854775807) (hn : -9223372036854775808 ≤ n ∧ n ≤ 9223372036854775807) (hn1 : zs1.length = 16) (hz1 : ∀ z ∈ zs1, (Lit.int .u8 z).wf = true) (hn2 : zs2.length = 2) (hz2 : ∀ z ∈ zs2, (Lit.int .i64 z).wf = true) :
    Calls Tryd.prog 3 #[.agg (pcells V X n).toArray, .agg (zs1.map (Value.int .u8)).toArray, .agg (zs2.map (Value.int .i64)).toArray] w fun e w' => e = .returned (.bool true) ∧ Below w.heap.size w w' := by
  obtain ⟨Y, hY, hl, hb⟩ := pf_bytes_of hz1
  obtain ⟨a, b, rfl⟩ := two_of hn2
  rw [hY]
  exact wpchecks V X n Y a b w hT hX hV ⟨hl.trans hn1, hb⟩ (wf_i64 (hz2 a (by simp))) (wf_i64 (hz2 b (by simp)))
end Go.Proofs.YtlkilkhnblmjaaaDoor
