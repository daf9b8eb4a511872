/-
  The walk of WholeNets.
-/
import Derived.Test.YtaicmadeobglfaaDoorNetP
import Derived.Test.YtaicmadeobglfaaDoorWPBackH
namespace Go.Proofs.YtaicmadeobglfaaDoor
open Go.RowKit
set_option linter.unusedVariables false

theorem guard4n : NoGuard 35 := guard_of _ (by kernel_rfl)
theorem net_b {b : Bool} {V : Int} {M : Nat} (h : (b = true ∧ V = 6 ∧ M = 128) ∨ (b = false ∧ V = 4 ∧ M = 32)) : V = 4 ∧ M = 32 ∨ V = 6 ∧ M = 128 := by
  rcases h with ⟨_, h⟩ | ⟨_, h⟩
  · exact .inr h
  · exact .inl h
theorem net_vb {V : Int} {M : Nat} (h : V = 4 ∧ M = 32 ∨ V = 6 ∧ M = 128) : -9223372036854775808 ≤ V ∧ V ≤ 9223372036854775807 := by omega
theorem net_kb {k M : Nat} (h : k < M) (hM : M ≤ 128) : -9223372036854775808 ≤ ((k + 1 : Nat) : Int) ∧ ((k + 1 : Nat) : Int) ≤ 9223372036854775807 := by omega
theorem net_at (w : World) (b o c : Nat) : (Instr.arrayAt 35 (.slice (some ⟨b, o, none⟩) 4 c)).run Tryd.prog w = .ok (.pointer (some ⟨b, o, none⟩)) w := by
  simp [Instr.arrayAt, run_underlying Tryd.underlying35, go_sem]
theorem net_meas {k M : Nat} (h : k < M) : M - (intOf (.int .i64 ((k + 1 : Nat) : Int))).toNat < M - (intOf (.int .i64 (k : Int))).toNat := by simp [intOf]; omega
theorem net_next {k M : Nat} (h : k < M) (hM : M ≤ 128) : wrap64 ((k : Int) + 1) = ((k + 1 : Nat) : Int) := by unfold wrap64; omega
theorem net_end' {k M : Nat} (h : k ≤ M) (h2 : ¬ k < M) : k = M := by omega
set_option maxRecDepth 10000 in
set_option maxHeartbeats 12800000 in
theorem wnets (b : Bool) (V : Int) (M : Nat) (A : List Nat) (w : World) (hvb : (b = true ∧ V = 6 ∧ M = 128) ∨ (b = false ∧ V = 4 ∧ M = 32)) (hT : Six w) (hA : Adr A) :
    Calls Tryd.prog 3 #[.agg (bcells A).toArray, .bool b] w fun e w' => e = .returned (.bool true) ∧ Below w.heap.size w w' := by
  have hv := net_b hvb
  have HT := Lib.hid hT
  have HA := Lib.hid hA
  have HV := Lib.hid hv
  have HVB := Lib.hid hvb
  have hM : Hid (M ≤ 128) := by show M ≤ 128; rcases hv with ⟨_, rfl⟩ | ⟨_, rfl⟩ <;> decide
  have HAl : Hid ((bcells A).length = 16) := by show _ = _; rw [bcells_length, hA.len]
  have HAa : Hid (((bcells A).drop 0).take 16 = bcells A) := by show _ = _; rw [List.drop_zero, List.take_of_length_le (Nat.le_of_eq HAl.out)]
  have CAll : Hid (∀ w, Calls Tryd.prog 4 #[.int .i64 V] w fun e w' => e = .returned (.agg (pcells V zero16 0).toArray) ∧ Below w.heap.size w w') := fun w => pall_any V w
  have K0 : Hid (KV w [(22, w.heap.size, bcells A)] (w.alloc (.cells (bcells A).toArray 22))) := KV.one w _ _
  clear hT hA hv hvb
  go_enter Tryd.func3, Tryd.ntmps3
  go_upto_if 18 with fail
  go_cut [5, 6] from 18 to 18 (fun v m wx => v = .int .i64 V ∧ m = .int .i64 ((M : Nat) : Int) ∧ wx = w.alloc (.cells (bcells A).toArray 22))
  case first =>
    rcases HVB.out with ⟨h1, h2, h3⟩ | ⟨h1, h2, h3⟩
    · subst h1 h2 h3
      go_wp2_with fail
      go_meet
      exact ⟨rfl, by rfl, rfl⟩
    · subst h1 h2 h3
      go_wp2_with fail
      go_meet
      exact ⟨rfl, by rfl, rfl⟩
  case rest =>
    obtain ⟨rfl, rfl, rfl⟩ := hcut
    obtain ⟨P0, hP0⟩ : ∃ P, P = pcells V zero16 0 := ⟨_, rfl⟩
    have HP0 := Lib.hid (pc_parts V 0 (X := zero16) rfl)
    rw [← hP0] at HP0 CAll
    have HE0 := Lib.hid hP0
    clear hP0
    go_upto_region 4 with fail
    try simp only [Act.put]
    refine wp_region_lit ?_
    refine wpList_quiet_take (C := KV w [(22, w.heap.size, bcells A)]) 2 K0.out ?_
    simp only [List.take, List.drop]
    repeat (first
      | go_big_quiet_skip
      | (go_big_quiet_want; apply Exists.intro; refine ⟨fun w' hw' => (by first | exact quietAt_part (off := 0) rfl rfl ty16 (hw'.at 0 rfl) HAa.out HAl.out | fail), ?_⟩; simp only [Act.put, List.setIfInBounds_toArray, List.set_cons_zero, List.set_cons_succ]; go_big_quiet_on)
      | (go_big_quiet_want; go_big_quiet_op; go_big_quiet_on)
      | (go_big_quiet_want; go_big_quiet_op; apply Exists.intro; refine ⟨fun w' hw' => (by first | (with_reducible refine (CAll.out w').mono ?_; rintro e w'' ⟨rfl, hb⟩; exact ⟨rfl, hw'.below hb⟩) | fail), ?_⟩; go_big_quiet_on)
      | (go_big_quiet_want; go_big_quiet_op; apply Exists.intro; refine ⟨fun w' hw' => rfl, ?_⟩; go_big_quiet_on))
    refine wpQuiet_nil ?_
    intro z4 hz4
    have kz4 : Hid (KV w [(22, w.heap.size, bcells A), (24, z4.heap.size, P0)] ((z4.alloc (.cells (pcells 0 zero16 0).toArray 24)).setCells z4.heap.size 0 P0)) := (hz4.new 24 (pcells 0 zero16 0)).store 1 rfl P0 (by rw [HP0.out.len]; rfl)
    have az4 := Lib.hid ((hz4.new 24 (pcells 0 zero16 0)).at 1 rfl)
    clear hz4 K0
    go_upto_region 5 with (first | refine wpList_store_v rfl 24 (.tmp 7) (.tmp 20) rfl _ rfl typfx az4.out zero18_len P0 HP0.out.len HP0.out.one rfl ?_ | fail)
    try simp only [Act.put]
    generalize z4.heap.size = g7 at *
    go_wp2_with fail
    go_loopw [8] (fun i wr => ∃ k : Nat, k ≤ M ∧ i = .int .i64 (k : Int) ∧ Hid (KV w [(22, w.heap.size, bcells A), (24, g7, pcells V (keepB A k) ((k : Nat) : Int))] wr)) (fun i _ => M - (intOf i).toNat)
    case atStart =>
      refine ⟨0, Nat.zero_le _, rfl, ?_⟩
      have e : P0 = pcells V (keepB A 0) ((0 : Nat) : Int) := by rw [HE0.out, keepB_zero]; rfl
      rw [← e]
      exact kz4.out
    case round =>
      clear kz4 az4 HE0 HP0 CAll
      obtain ⟨k, hk, rfl, KK⟩ := hrel
      by_cases hlt : k < M
      · obtain ⟨X, hX⟩ : ∃ X, X = keepB A k := ⟨_, rfl⟩
        obtain ⟨Y, hY⟩ : ∃ Y, Y = highB X k := ⟨_, rfl⟩
        obtain ⟨N, hN⟩ : ∃ N, N = keepB A (k + 1) := ⟨_, rfl⟩
        have net := net_step HV.out HA.out hlt hX hY hN
        rw [← hX] at KK
        obtain ⟨b1, hb1⟩ : ∃ b, b = phas V X ((k + 1 : Nat) : Int) V A := ⟨_, rfl⟩
        obtain ⟨b2, hb2⟩ : ∃ b, b = phas V Y ((k + 1 : Nat) : Int) V A := ⟨_, rfl⟩
        obtain ⟨s, hs⟩ : ∃ s, s = pprint V N ((k + 1 : Nat) : Int) := ⟨_, rfl⟩
        have HP := Lib.hid (pc_parts V (k : Nat) net.aX.len)
        have HLO := Lib.hid (pc_parts V ((k + 1 : Nat) : Int) net.aX.len)
        have HHI := Lib.hid (pc_parts V ((k + 1 : Nat) : Int) net.aY.len)
        have HNX := Lib.hid (pc_parts V ((k + 1 : Nat) : Int) net.aN.len)
        have CHa : Hid (∀ w, Calls Tryd.prog 5 #[.agg (pcells V X (k : Nat)).toArray] w fun e w' => e = .returned (.tuple #[.agg (pcells V X ((k + 1 : Nat) : Int)).toArray, .agg (pcells V Y ((k + 1 : Nat) : Int)).toArray, .bool true]) ∧ Below w.heap.size w w') := fun w => (phalves_any V X (k : Nat) w net.aX).mono fun e w' ⟨h1, h2⟩ => ⟨by rw [h1, net.low, net.high, net.half], h2⟩
        have CX : Hid (∀ w, Calls Tryd.prog 6 #[.agg (pcells V X ((k + 1 : Nat) : Int)).toArray, .int .i64 V, .agg (bcells A).toArray] w fun e w' => e = .returned (.bool b1) ∧ Below w.heap.size w w') := fun w => by rw [hb1]; exact phas_any V X ((k + 1 : Nat) : Int) V A w net.aX HA.out
        have CY : Hid (∀ w, Calls Tryd.prog 6 #[.agg (pcells V Y ((k + 1 : Nat) : Int)).toArray, .int .i64 V, .agg (bcells A).toArray] w fun e w' => e = .returned (.bool b2) ∧ Below w.heap.size w w') := fun w => by rw [hb2]; exact phas_any V Y ((k + 1 : Nat) : Int) V A w net.aY HA.out
        have CPr : Hid (∀ w, Six w → Calls Tryd.prog 8 #[.agg (pcells V N ((k + 1 : Nat) : Int)).toArray] w fun e w' => e = .returned (.string s) ∧ Below w.heap.size w w') := fun w h => by rw [hs]; exact pprint_any V N ((k + 1 : Nat) : Int) w net.aN h
        have CPa : Hid (∀ w, Six w → Calls Tryd.prog 7 #[.string s] w fun e w' => e = .returned (.tuple #[.agg (pcells V N ((k + 1 : Nat) : Int)).toArray, .int .i64 0]) ∧ Below w.heap.size w w') := fun w h => (pparse_any s w (by rw [hs]; exact net.size) h).mono fun e w' ⟨h1, h2⟩ => ⟨by rw [h1, hs, net.text], h2⟩
        have CW1 : Hid (∀ w, Calls Tryd.prog 9 #[.agg (pcells V N ((k + 1 : Nat) : Int)).toArray, .agg (pcells V X (k : Nat)).toArray] w fun e w' => e = .returned (.bool true) ∧ Below w.heap.size w w') := fun w => (pwithin_any V N ((k + 1 : Nat) : Int) V X (k : Nat) w net.aN net.aX).mono fun e w' ⟨h1, h2⟩ => ⟨by rw [h1, net.inn], h2⟩
        have CW2 : Hid (∀ w, Calls Tryd.prog 9 #[.agg (pcells V X (k : Nat)).toArray, .agg (pcells V N ((k + 1 : Nat) : Int)).toArray] w fun e w' => e = .returned (.bool false) ∧ Below w.heap.size w w') := fun w => (pwithin_any V X (k : Nat) V N ((k + 1 : Nat) : Int) w net.aX net.aN).mono fun e w' ⟨h1, h2⟩ => ⟨by rw [h1, net.out], h2⟩
        have qN : Hid (∀ w, (Op.equalIn 10000 24 (.agg (pcells V N ((k + 1 : Nat) : Int)).toArray) (.agg (pcells V N ((k + 1 : Nat) : Int)).toArray)).run Tryd.prog w = .ok true w) := fun w => by
          have h2 := pfx_same net.aN net.aN (V := V) (V' := V) (n := ((k + 1 : Nat) : Int)) (n' := ((k + 1 : Nat) : Int)) (net_vb HV.out) (net_kb hlt hM.out) (net_vb HV.out) (net_kb hlt hM.out) w
          rw [decide_eq_true ⟨rfl, rfl, rfl⟩] at h2
          exact h2
        have hone := net.one
        rw [← hb1, ← hb2] at hone
        have HONE : Hid ((b1 = true ∧ b2 = false ∧ pcells V N ((k + 1 : Nat) : Int) = pcells V X ((k + 1 : Nat) : Int)) ∨ (b1 = false ∧ b2 = true ∧ pcells V N ((k + 1 : Nat) : Int) = pcells V Y ((k + 1 : Nat) : Int))) := by
          rcases hone with ⟨h1, h2, h3⟩ | ⟨h1, h2, h3⟩
          · exact .inl ⟨h1, h2, by rw [h3]⟩
          · exact .inr ⟨h1, h2, by rw [h3]⟩
        have HNK : Hid (pcells V N ((k + 1 : Nat) : Int) = pcells V (keepB A (k + 1)) ((k + 1 : Nat) : Int)) := by show _ = _; rw [hN]
        obtain ⟨P, hPe⟩ : ∃ P, P = pcells V X (k : Nat) := ⟨_, rfl⟩
        obtain ⟨LO, hLO⟩ : ∃ P, P = pcells V X ((k + 1 : Nat) : Int) := ⟨_, rfl⟩
        obtain ⟨HI, hHI⟩ : ∃ P, P = pcells V Y ((k + 1 : Nat) : Int) := ⟨_, rfl⟩
        obtain ⟨NX, hNX⟩ : ∃ P, P = pcells V N ((k + 1 : Nat) : Int) := ⟨_, rfl⟩
        rw [← hPe] at KK HP CHa CW1 CW2
        rw [← hLO] at HLO CHa CX HONE
        rw [← hHI] at HHI CHa CY HONE
        rw [← hNX] at HNX CPr CPa CW1 CW2 qN HONE HNK
        have uk := net_next hlt hM.out
        have hki : (k : Int) < (M : Int) := Int.ofNat_lt.2 hlt
        have HLT := Lib.hid hlt
        clear hX hY hN net hb1 hb2 hs hone hPe hLO hHI hNX hlt hk
        go_upto_region 8 with fail
        try simp only [Act.put]
        refine wp_region_lit ?_
        refine wpList_quiet_take (C := KV w [(22, w.heap.size, bcells A), (24, g7, P)]) 6 KK.out ?_
        simp only [List.take, List.drop]
        repeat (first
          | go_big_quiet_skip
          | (go_big_quiet_want; apply Exists.intro; refine ⟨fun w' hw' => (by first | exact quietAt_part (off := 0) rfl rfl ty16 (hw'.at 0 rfl) HAa.out HAl.out | exact quietAt_part rfl rfl typfx (hw'.at 1 rfl) HP.out.all HP.out.len | fail), ?_⟩; simp only [Act.put, List.setIfInBounds_toArray, List.set_cons_zero, List.set_cons_succ]; go_big_quiet_on)
          | (go_big_quiet_want; go_big_quiet_op; go_big_quiet_on)
          | (go_big_quiet_want; go_big_quiet_op; apply Exists.intro; refine ⟨fun w' hw' => (by first | (with_reducible refine (CHa.out w').mono ?_; rintro e w'' ⟨rfl, hb⟩; exact ⟨rfl, hw'.below hb⟩) | fail), ?_⟩; go_big_quiet_on)
          | (go_big_quiet_want; go_big_quiet_op; apply Exists.intro; refine ⟨fun w' hw' => rfl, ?_⟩; go_big_quiet_on))
        refine wpQuiet_nil ?_
        intro z8 hz8
        have m0 := Lib.hid (hz8.new2 24 24 (pcells 0 zero16 0) (pcells 0 zero16 0))
        have m1 := Lib.hid (m0.out.store 2 rfl LO (by rw [HLO.out.len]; rfl))
        have kz8 : Hid (KV w [(22, w.heap.size, bcells A), (24, g7, P), (24, z8.heap.size, LO), (24, z8.heap.size + 1, HI)] ((((z8.alloc (.cells (pcells 0 zero16 0).toArray 24)).alloc (.cells (pcells 0 zero16 0).toArray 24)).setCells z8.heap.size 0 LO).setCells (z8.heap.size + 1) 0 HI)) := m1.out.store 3 rfl HI (by rw [HHI.out.len]; rfl)
        have az8 := Lib.hid (m0.out.at 2 rfl)
        have bz8 := Lib.hid (m1.out.at 3 rfl)
        clear m0 m1
        clear hz8 KK
        obtain ⟨h1, h2, h3⟩ | ⟨h1, h2, h3⟩ := HONE.out
        · subst h1 h2 h3
          clear HONE
          go_upto_region 9 with (first | refine wpList_store_v rfl 24 (.tmp 9) (.tmp 29) rfl _ rfl typfx az8.out zero18_len NX HLO.out.len HLO.out.one rfl ?_ | refine wpList_store_v rfl 24 (.tmp 10) (.tmp 30) rfl _ rfl typfx bz8.out zero18_len HI HHI.out.len HHI.out.one rfl ?_ | fail)
          try simp only [Act.put]
          refine wp_quiet_kv (C := KV w [(22, w.heap.size, bcells A), (24, g7, P), (24, z8.heap.size, NX), (24, z8.heap.size + 1, HI)]) (by kernel_rfl) (by kernel_rfl) kz8.out.drew ?_
          repeat (first
            | go_big_quiet_skip
            | (go_big_quiet_want; apply Exists.intro; refine ⟨fun w' hw' => (by first | exact quietAt_part (off := 0) rfl rfl ty16 (hw'.at 0 rfl) HAa.out HAl.out | exact quietAt_part rfl rfl typfx (hw'.at 1 rfl) HP.out.all HP.out.len | exact quietAt_part rfl rfl typfx (hw'.at 2 rfl) HNX.out.all HNX.out.len | exact quietAt_part rfl rfl typfx (hw'.at 3 rfl) HHI.out.all HHI.out.len | fail), ?_⟩; simp only [Act.put, List.setIfInBounds_toArray, List.set_cons_zero, List.set_cons_succ]; go_big_quiet_on)
            | (go_big_quiet_want; go_big_quiet_op; go_big_quiet_on)
            | (go_big_quiet_want; go_big_quiet_op; apply Exists.intro; refine ⟨fun w' hw' => (by first | (with_reducible refine (CX.out w').mono ?_; rintro e w'' ⟨rfl, hb⟩; exact ⟨rfl, hw'.below hb⟩) | (with_reducible refine (CY.out w').mono ?_; rintro e w'' ⟨rfl, hb⟩; exact ⟨rfl, hw'.below hb⟩) | fail), ?_⟩; go_big_quiet_on)
            | (go_big_quiet_want; go_big_quiet_op; apply Exists.intro; refine ⟨fun w' hw' => rfl, ?_⟩; go_big_quiet_on))
          refine wpQuiet_nil ?_
          intro v11 hv11
          clear kz8 az8 bz8
          go_upto_region 11 with fail
          try simp only [Act.put]
          refine wp_region_lit ?_
          refine wpList_quiet_take (C := KV w [(22, w.heap.size, bcells A), (24, g7, P), (24, z8.heap.size, NX), (24, z8.heap.size + 1, HI)]) 1 hv11 ?_
          simp only [List.take, List.drop]
          repeat (first
            | go_big_quiet_skip
            | (go_big_quiet_want; apply Exists.intro; refine ⟨fun w' hw' => (by first | exact quietAt_part (off := 0) rfl rfl ty16 (hw'.at 0 rfl) HAa.out HAl.out | exact quietAt_part rfl rfl typfx (hw'.at 1 rfl) HP.out.all HP.out.len | exact quietAt_part rfl rfl typfx (hw'.at 2 rfl) HNX.out.all HNX.out.len | exact quietAt_part rfl rfl typfx (hw'.at 3 rfl) HHI.out.all HHI.out.len | fail), ?_⟩; simp only [Act.put, List.setIfInBounds_toArray, List.set_cons_zero, List.set_cons_succ]; go_big_quiet_on)
            | (go_big_quiet_want; go_big_quiet_op; go_big_quiet_on)
            | (go_big_quiet_want; go_big_quiet_op; apply Exists.intro; refine ⟨fun w' hw' => rfl, ?_⟩; go_big_quiet_on))
          refine wpQuiet_nil ?_
          intro v12 hv12
          have kv12 : Hid (KV w [(22, w.heap.size, bcells A), (24, g7, P), (24, z8.heap.size, NX), (24, z8.heap.size + 1, HI), (24, v12.heap.size, HI)] ((v12.alloc (.cells (pcells 0 zero16 0).toArray 24)).setCells v12.heap.size 0 HI)) := (hv12.new 24 (pcells 0 zero16 0)).store 4 rfl HI (by rw [HHI.out.len]; rfl)
          have av12 := Lib.hid ((hv12.new 24 (pcells 0 zero16 0)).at 4 rfl)
          go_upto_region 12 with (first | refine wpList_store_v rfl 24 (.tmp 12) (.tmp 45) rfl _ rfl typfx av12.out zero18_len HI HHI.out.len HHI.out.one rfl ?_ | fail)
          try simp only [Act.put]
          refine wp_region_lit ?_
          refine wpList_quiet_all (C := KV w [(22, w.heap.size, bcells A), (24, g7, P), (24, z8.heap.size, NX), (24, z8.heap.size + 1, HI), (24, v12.heap.size, HI)]) kv12 ?_
          repeat (first
            | go_big_quiet_skip
            | (go_big_quiet_want; apply Exists.intro; refine ⟨fun w' hw' => (by first | exact quietAt_part (off := 0) rfl rfl ty16 (hw'.at 0 rfl) HAa.out HAl.out | exact quietAt_part rfl rfl typfx (hw'.at 1 rfl) HP.out.all HP.out.len | exact quietAt_part rfl rfl typfx (hw'.at 2 rfl) HNX.out.all HNX.out.len | exact quietAt_part rfl rfl typfx (hw'.at 3 rfl) HHI.out.all HHI.out.len | exact quietAt_part rfl rfl typfx (hw'.at 4 rfl) HHI.out.all HHI.out.len | fail), ?_⟩; simp only [Act.put, List.setIfInBounds_toArray, List.set_cons_zero, List.set_cons_succ]; go_big_quiet_on)
            | (go_big_quiet_want; go_big_quiet_op; go_big_quiet_on)
            | (go_big_quiet_want; go_big_quiet_op; apply Exists.intro; refine ⟨fun w' hw' => (by first | (with_reducible refine (CX.out w').mono ?_; rintro e w'' ⟨rfl, hb⟩; exact ⟨rfl, hw'.below hb⟩) | fail), ?_⟩; go_big_quiet_on)
            | (go_big_quiet_want; go_big_quiet_op; apply Exists.intro; refine ⟨fun w' hw' => rfl, ?_⟩; go_big_quiet_on))
          refine wpQuiet_nil ?_
          intro v13 hv13
          clear kv12 av12
          go_upto_region 13 with fail
          try simp only [Act.put]
          refine wp_region_lit ?_
          refine wpList_quiet_take (C := KV w [(22, w.heap.size, bcells A), (24, g7, P), (24, z8.heap.size, NX), (24, z8.heap.size + 1, HI), (24, v12.heap.size, HI)]) 1 hv13 ?_
          simp only [List.take, List.drop]
          repeat (first
            | go_big_quiet_skip
            | (go_big_quiet_want; apply Exists.intro; refine ⟨fun w' hw' => (by first | exact quietAt_part (off := 0) rfl rfl ty16 (hw'.at 0 rfl) HAa.out HAl.out | exact quietAt_part rfl rfl typfx (hw'.at 1 rfl) HP.out.all HP.out.len | exact quietAt_part rfl rfl typfx (hw'.at 2 rfl) HNX.out.all HNX.out.len | exact quietAt_part rfl rfl typfx (hw'.at 3 rfl) HHI.out.all HHI.out.len | exact quietAt_part rfl rfl typfx (hw'.at 4 rfl) HHI.out.all HHI.out.len | fail), ?_⟩; simp only [Act.put, List.setIfInBounds_toArray, List.set_cons_zero, List.set_cons_succ]; go_big_quiet_on)
            | (go_big_quiet_want; go_big_quiet_op; go_big_quiet_on)
            | (go_big_quiet_want; go_big_quiet_op; apply Exists.intro; refine ⟨fun w' hw' => rfl, ?_⟩; go_big_quiet_on))
          refine wpQuiet_nil ?_
          intro v14 hv14
          have kv14 : Hid (KV w [(22, w.heap.size, bcells A), (24, g7, P), (24, z8.heap.size, NX), (24, z8.heap.size + 1, HI), (24, v12.heap.size, NX)] (v14.setCells (v12.heap.size) 0 NX)) := hv14.store 4 rfl NX (by rw [HNX.out.len, HHI.out.len])
          have av14 := Lib.hid (hv14.at 4 rfl)
          go_upto_region 14 with (first | refine wpList_store_v rfl 24 (.tmp 12) (.tmp 50) rfl _ rfl typfx av14.out HHI.out.len NX HNX.out.len HNX.out.one rfl ?_ | fail)
          try simp only [Act.put]
          refine wp_region_lit ?_
          refine wpList_quiet_take (C := KV w [(22, w.heap.size, bcells A), (24, g7, P), (24, z8.heap.size, NX), (24, z8.heap.size + 1, HI), (24, v12.heap.size, NX)]) 5 kv14 ?_
          simp only [List.take, List.drop]
          repeat (first
            | go_big_quiet_skip
            | (go_big_quiet_want; apply Exists.intro; refine ⟨fun w' hw' => (by first | exact quietAt_part (off := 0) rfl rfl ty16 (hw'.at 0 rfl) HAa.out HAl.out | exact quietAt_part rfl rfl typfx (hw'.at 1 rfl) HP.out.all HP.out.len | exact quietAt_part rfl rfl typfx (hw'.at 2 rfl) HNX.out.all HNX.out.len | exact quietAt_part rfl rfl typfx (hw'.at 3 rfl) HHI.out.all HHI.out.len | exact quietAt_part rfl rfl typfx (hw'.at 4 rfl) HNX.out.all HNX.out.len | fail), ?_⟩; simp only [Act.put, List.setIfInBounds_toArray, List.set_cons_zero, List.set_cons_succ]; go_big_quiet_on)
            | (go_big_quiet_want; go_big_quiet_op; go_big_quiet_on)
            | (go_big_quiet_want; go_big_quiet_op; apply Exists.intro; refine ⟨fun w' hw' => (by first | (with_reducible refine (CPr.out w' (HT.out.below hw'.bel)).mono ?_; rintro e w'' ⟨rfl, hb⟩; exact ⟨rfl, hw'.below hb⟩) | (with_reducible refine (CPa.out w' (HT.out.below hw'.bel)).mono ?_; rintro e w'' ⟨rfl, hb⟩; exact ⟨rfl, hw'.below hb⟩) | fail), ?_⟩; go_big_quiet_on)
            | (go_big_quiet_want; go_big_quiet_op; apply Exists.intro; refine ⟨fun w' hw' => rfl, ?_⟩; go_big_quiet_on))
          refine wpQuiet_nil ?_
          intro v15 hv15
          have kv15 : Hid (KV w [(22, w.heap.size, bcells A), (24, g7, P), (24, z8.heap.size, NX), (24, z8.heap.size + 1, HI), (24, v12.heap.size, NX), (24, v15.heap.size, NX)] ((v15.alloc (.cells (pcells 0 zero16 0).toArray 24)).setCells v15.heap.size 0 NX)) := (hv15.new 24 (pcells 0 zero16 0)).store 5 rfl NX (by rw [HNX.out.len]; rfl)
          have av15 := Lib.hid ((hv15.new 24 (pcells 0 zero16 0)).at 5 rfl)
          go_upto_region 15 with (first | refine wpList_store_v rfl 24 (.tmp 13) (.tmp 55) rfl _ rfl typfx av15.out zero18_len NX HNX.out.len HNX.out.one rfl ?_ | fail)
          try simp only [Act.put]
          refine wp_region_lit ?_
          refine wpList_quiet_all (C := KV w [(22, w.heap.size, bcells A), (24, g7, P), (24, z8.heap.size, NX), (24, z8.heap.size + 1, HI), (24, v12.heap.size, NX), (24, v15.heap.size, NX)]) kv15 ?_
          repeat (first
            | go_big_quiet_skip
            | (go_big_quiet_want; apply Exists.intro; refine ⟨fun w' hw' => (by first | exact quietAt_part (off := 0) rfl rfl ty16 (hw'.at 0 rfl) HAa.out HAl.out | exact quietAt_part rfl rfl typfx (hw'.at 1 rfl) HP.out.all HP.out.len | exact quietAt_part rfl rfl typfx (hw'.at 2 rfl) HNX.out.all HNX.out.len | exact quietAt_part rfl rfl typfx (hw'.at 3 rfl) HHI.out.all HHI.out.len | exact quietAt_part rfl rfl typfx (hw'.at 4 rfl) HNX.out.all HNX.out.len | exact quietAt_part rfl rfl typfx (hw'.at 5 rfl) HNX.out.all HNX.out.len | exact quietAt_nn rfl rfl rfl guardpfx qN.out | fail), ?_⟩; simp only [Act.put, List.setIfInBounds_toArray, List.set_cons_zero, List.set_cons_succ]; go_big_quiet_on)
            | (go_big_quiet_want; go_big_quiet_op; go_big_quiet_on)
            | (go_big_quiet_want; go_big_quiet_op; apply Exists.intro; refine ⟨fun w' hw' => (by first | (with_reducible refine (CW1.out w').mono ?_; rintro e w'' ⟨rfl, hb⟩; exact ⟨rfl, hw'.below hb⟩) | (with_reducible refine (CW2.out w').mono ?_; rintro e w'' ⟨rfl, hb⟩; exact ⟨rfl, hw'.below hb⟩) | fail), ?_⟩; go_big_quiet_on)
            | (go_big_quiet_want; go_big_quiet_op; apply Exists.intro; refine ⟨fun w' hw' => rfl, ?_⟩; go_big_quiet_on))
          refine wpQuiet_nil ?_
          intro v16 hv16
          go_upto_region 17 with fail
          try simp only [Act.put]
          refine wp_region_lit ?_
          refine wpList_quiet_take (C := KV w [(22, w.heap.size, bcells A), (24, g7, P), (24, z8.heap.size, NX), (24, z8.heap.size + 1, HI), (24, v12.heap.size, NX), (24, v15.heap.size, NX)]) 1 hv16 ?_
          simp only [List.take, List.drop]
          repeat (first
            | go_big_quiet_skip
            | (go_big_quiet_want; apply Exists.intro; refine ⟨fun w' hw' => (by first | exact quietAt_part (off := 0) rfl rfl ty16 (hw'.at 0 rfl) HAa.out HAl.out | exact quietAt_part rfl rfl typfx (hw'.at 1 rfl) HP.out.all HP.out.len | exact quietAt_part rfl rfl typfx (hw'.at 2 rfl) HNX.out.all HNX.out.len | exact quietAt_part rfl rfl typfx (hw'.at 3 rfl) HHI.out.all HHI.out.len | exact quietAt_part rfl rfl typfx (hw'.at 4 rfl) HNX.out.all HNX.out.len | exact quietAt_part rfl rfl typfx (hw'.at 5 rfl) HNX.out.all HNX.out.len | fail), ?_⟩; simp only [Act.put, List.setIfInBounds_toArray, List.set_cons_zero, List.set_cons_succ]; go_big_quiet_on)
            | (go_big_quiet_want; go_big_quiet_op; go_big_quiet_on)
            | (go_big_quiet_want; go_big_quiet_op; apply Exists.intro; refine ⟨fun w' hw' => rfl, ?_⟩; go_big_quiet_on))
          refine wpQuiet_nil ?_
          intro v17 hv17
          have kv17 : Hid (KV w [(22, w.heap.size, bcells A), (24, g7, NX), (24, z8.heap.size, NX), (24, z8.heap.size + 1, HI), (24, v12.heap.size, NX), (24, v15.heap.size, NX)] (v17.setCells (g7) 0 NX)) := hv17.store 1 rfl NX (by rw [HNX.out.len, HP.out.len])
          have av17 := Lib.hid (hv17.at 1 rfl)
          have KE : Hid (KV w [(22, w.heap.size, bcells A), (24, g7, NX)] _) := kv17.out.pick [0, 1] (by decide) rfl (fun q hq => by simp at hq; rcases hq with rfl | rfl <;> rfl)
          go_wp2_with (first | refine wpList_store_v rfl 24 (.tmp 7) (.tmp 75) rfl _ rfl typfx av17.out HP.out.len NX HNX.out.len HNX.out.one rfl ?_ | fail)
          try simp only [Act.put]
          go_roundw
          case rel => exact ⟨k + 1, HLT.out, by rw [uk], by rw [← HNK.out]; exact KE⟩
          case measure => rw [uk]; exact net_meas HLT.out
        · subst h1 h2 h3
          clear HONE
          go_upto_region 9 with (first | refine wpList_store_v rfl 24 (.tmp 9) (.tmp 29) rfl _ rfl typfx az8.out zero18_len LO HLO.out.len HLO.out.one rfl ?_ | refine wpList_store_v rfl 24 (.tmp 10) (.tmp 30) rfl _ rfl typfx bz8.out zero18_len NX HHI.out.len HHI.out.one rfl ?_ | fail)
          try simp only [Act.put]
          refine wp_quiet_kv (C := KV w [(22, w.heap.size, bcells A), (24, g7, P), (24, z8.heap.size, LO), (24, z8.heap.size + 1, NX)]) (by kernel_rfl) (by kernel_rfl) kz8.out.drew ?_
          repeat (first
            | go_big_quiet_skip
            | (go_big_quiet_want; apply Exists.intro; refine ⟨fun w' hw' => (by first | exact quietAt_part (off := 0) rfl rfl ty16 (hw'.at 0 rfl) HAa.out HAl.out | exact quietAt_part rfl rfl typfx (hw'.at 1 rfl) HP.out.all HP.out.len | exact quietAt_part rfl rfl typfx (hw'.at 2 rfl) HLO.out.all HLO.out.len | exact quietAt_part rfl rfl typfx (hw'.at 3 rfl) HNX.out.all HNX.out.len | fail), ?_⟩; simp only [Act.put, List.setIfInBounds_toArray, List.set_cons_zero, List.set_cons_succ]; go_big_quiet_on)
            | (go_big_quiet_want; go_big_quiet_op; go_big_quiet_on)
            | (go_big_quiet_want; go_big_quiet_op; apply Exists.intro; refine ⟨fun w' hw' => (by first | (with_reducible refine (CX.out w').mono ?_; rintro e w'' ⟨rfl, hb⟩; exact ⟨rfl, hw'.below hb⟩) | (with_reducible refine (CY.out w').mono ?_; rintro e w'' ⟨rfl, hb⟩; exact ⟨rfl, hw'.below hb⟩) | fail), ?_⟩; go_big_quiet_on)
            | (go_big_quiet_want; go_big_quiet_op; apply Exists.intro; refine ⟨fun w' hw' => rfl, ?_⟩; go_big_quiet_on))
          refine wpQuiet_nil ?_
          intro v21 hv21
          clear kz8 az8 bz8
          go_upto_region 11 with fail
          try simp only [Act.put]
          refine wp_region_lit ?_
          refine wpList_quiet_take (C := KV w [(22, w.heap.size, bcells A), (24, g7, P), (24, z8.heap.size, LO), (24, z8.heap.size + 1, NX)]) 1 hv21 ?_
          simp only [List.take, List.drop]
          repeat (first
            | go_big_quiet_skip
            | (go_big_quiet_want; apply Exists.intro; refine ⟨fun w' hw' => (by first | exact quietAt_part (off := 0) rfl rfl ty16 (hw'.at 0 rfl) HAa.out HAl.out | exact quietAt_part rfl rfl typfx (hw'.at 1 rfl) HP.out.all HP.out.len | exact quietAt_part rfl rfl typfx (hw'.at 2 rfl) HLO.out.all HLO.out.len | exact quietAt_part rfl rfl typfx (hw'.at 3 rfl) HNX.out.all HNX.out.len | fail), ?_⟩; simp only [Act.put, List.setIfInBounds_toArray, List.set_cons_zero, List.set_cons_succ]; go_big_quiet_on)
            | (go_big_quiet_want; go_big_quiet_op; go_big_quiet_on)
            | (go_big_quiet_want; go_big_quiet_op; apply Exists.intro; refine ⟨fun w' hw' => rfl, ?_⟩; go_big_quiet_on))
          refine wpQuiet_nil ?_
          intro v22 hv22
          have kv22 : Hid (KV w [(22, w.heap.size, bcells A), (24, g7, P), (24, z8.heap.size, LO), (24, z8.heap.size + 1, NX), (24, v22.heap.size, NX)] ((v22.alloc (.cells (pcells 0 zero16 0).toArray 24)).setCells v22.heap.size 0 NX)) := (hv22.new 24 (pcells 0 zero16 0)).store 4 rfl NX (by rw [HNX.out.len]; rfl)
          have av22 := Lib.hid ((hv22.new 24 (pcells 0 zero16 0)).at 4 rfl)
          go_upto_region 12 with (first | refine wpList_store_v rfl 24 (.tmp 12) (.tmp 45) rfl _ rfl typfx av22.out zero18_len NX HNX.out.len HNX.out.one rfl ?_ | fail)
          try simp only [Act.put]
          refine wp_region_lit ?_
          refine wpList_quiet_all (C := KV w [(22, w.heap.size, bcells A), (24, g7, P), (24, z8.heap.size, LO), (24, z8.heap.size + 1, NX), (24, v22.heap.size, NX)]) kv22 ?_
          repeat (first
            | go_big_quiet_skip
            | (go_big_quiet_want; apply Exists.intro; refine ⟨fun w' hw' => (by first | exact quietAt_part (off := 0) rfl rfl ty16 (hw'.at 0 rfl) HAa.out HAl.out | exact quietAt_part rfl rfl typfx (hw'.at 1 rfl) HP.out.all HP.out.len | exact quietAt_part rfl rfl typfx (hw'.at 2 rfl) HLO.out.all HLO.out.len | exact quietAt_part rfl rfl typfx (hw'.at 3 rfl) HNX.out.all HNX.out.len | exact quietAt_part rfl rfl typfx (hw'.at 4 rfl) HNX.out.all HNX.out.len | fail), ?_⟩; simp only [Act.put, List.setIfInBounds_toArray, List.set_cons_zero, List.set_cons_succ]; go_big_quiet_on)
            | (go_big_quiet_want; go_big_quiet_op; go_big_quiet_on)
            | (go_big_quiet_want; go_big_quiet_op; apply Exists.intro; refine ⟨fun w' hw' => (by first | (with_reducible refine (CX.out w').mono ?_; rintro e w'' ⟨rfl, hb⟩; exact ⟨rfl, hw'.below hb⟩) | fail), ?_⟩; go_big_quiet_on)
            | (go_big_quiet_want; go_big_quiet_op; apply Exists.intro; refine ⟨fun w' hw' => rfl, ?_⟩; go_big_quiet_on))
          refine wpQuiet_nil ?_
          intro v23 hv23
          clear kv22 av22
          go_upto_region 14 with fail
          try simp only [Act.put]
          refine wp_region_lit ?_
          refine wpList_quiet_take (C := KV w [(22, w.heap.size, bcells A), (24, g7, P), (24, z8.heap.size, LO), (24, z8.heap.size + 1, NX), (24, v22.heap.size, NX)]) 5 hv23 ?_
          simp only [List.take, List.drop]
          repeat (first
            | go_big_quiet_skip
            | (go_big_quiet_want; apply Exists.intro; refine ⟨fun w' hw' => (by first | exact quietAt_part (off := 0) rfl rfl ty16 (hw'.at 0 rfl) HAa.out HAl.out | exact quietAt_part rfl rfl typfx (hw'.at 1 rfl) HP.out.all HP.out.len | exact quietAt_part rfl rfl typfx (hw'.at 2 rfl) HLO.out.all HLO.out.len | exact quietAt_part rfl rfl typfx (hw'.at 3 rfl) HNX.out.all HNX.out.len | exact quietAt_part rfl rfl typfx (hw'.at 4 rfl) HNX.out.all HNX.out.len | fail), ?_⟩; simp only [Act.put, List.setIfInBounds_toArray, List.set_cons_zero, List.set_cons_succ]; go_big_quiet_on)
            | (go_big_quiet_want; go_big_quiet_op; go_big_quiet_on)
            | (go_big_quiet_want; go_big_quiet_op; apply Exists.intro; refine ⟨fun w' hw' => (by first | (with_reducible refine (CPr.out w' (HT.out.below hw'.bel)).mono ?_; rintro e w'' ⟨rfl, hb⟩; exact ⟨rfl, hw'.below hb⟩) | (with_reducible refine (CPa.out w' (HT.out.below hw'.bel)).mono ?_; rintro e w'' ⟨rfl, hb⟩; exact ⟨rfl, hw'.below hb⟩) | fail), ?_⟩; go_big_quiet_on)
            | (go_big_quiet_want; go_big_quiet_op; apply Exists.intro; refine ⟨fun w' hw' => rfl, ?_⟩; go_big_quiet_on))
          refine wpQuiet_nil ?_
          intro v24 hv24
          have kv24 : Hid (KV w [(22, w.heap.size, bcells A), (24, g7, P), (24, z8.heap.size, LO), (24, z8.heap.size + 1, NX), (24, v22.heap.size, NX), (24, v24.heap.size, NX)] ((v24.alloc (.cells (pcells 0 zero16 0).toArray 24)).setCells v24.heap.size 0 NX)) := (hv24.new 24 (pcells 0 zero16 0)).store 5 rfl NX (by rw [HNX.out.len]; rfl)
          have av24 := Lib.hid ((hv24.new 24 (pcells 0 zero16 0)).at 5 rfl)
          go_upto_region 15 with (first | refine wpList_store_v rfl 24 (.tmp 13) (.tmp 55) rfl _ rfl typfx av24.out zero18_len NX HNX.out.len HNX.out.one rfl ?_ | fail)
          try simp only [Act.put]
          refine wp_region_lit ?_
          refine wpList_quiet_all (C := KV w [(22, w.heap.size, bcells A), (24, g7, P), (24, z8.heap.size, LO), (24, z8.heap.size + 1, NX), (24, v22.heap.size, NX), (24, v24.heap.size, NX)]) kv24 ?_
          repeat (first
            | go_big_quiet_skip
            | (go_big_quiet_want; apply Exists.intro; refine ⟨fun w' hw' => (by first | exact quietAt_part (off := 0) rfl rfl ty16 (hw'.at 0 rfl) HAa.out HAl.out | exact quietAt_part rfl rfl typfx (hw'.at 1 rfl) HP.out.all HP.out.len | exact quietAt_part rfl rfl typfx (hw'.at 2 rfl) HLO.out.all HLO.out.len | exact quietAt_part rfl rfl typfx (hw'.at 3 rfl) HNX.out.all HNX.out.len | exact quietAt_part rfl rfl typfx (hw'.at 4 rfl) HNX.out.all HNX.out.len | exact quietAt_part rfl rfl typfx (hw'.at 5 rfl) HNX.out.all HNX.out.len | exact quietAt_nn rfl rfl rfl guardpfx qN.out | fail), ?_⟩; simp only [Act.put, List.setIfInBounds_toArray, List.set_cons_zero, List.set_cons_succ]; go_big_quiet_on)
            | (go_big_quiet_want; go_big_quiet_op; go_big_quiet_on)
            | (go_big_quiet_want; go_big_quiet_op; apply Exists.intro; refine ⟨fun w' hw' => (by first | (with_reducible refine (CW1.out w').mono ?_; rintro e w'' ⟨rfl, hb⟩; exact ⟨rfl, hw'.below hb⟩) | (with_reducible refine (CW2.out w').mono ?_; rintro e w'' ⟨rfl, hb⟩; exact ⟨rfl, hw'.below hb⟩) | fail), ?_⟩; go_big_quiet_on)
            | (go_big_quiet_want; go_big_quiet_op; apply Exists.intro; refine ⟨fun w' hw' => rfl, ?_⟩; go_big_quiet_on))
          refine wpQuiet_nil ?_
          intro v25 hv25
          go_upto_region 17 with fail
          try simp only [Act.put]
          refine wp_region_lit ?_
          refine wpList_quiet_take (C := KV w [(22, w.heap.size, bcells A), (24, g7, P), (24, z8.heap.size, LO), (24, z8.heap.size + 1, NX), (24, v22.heap.size, NX), (24, v24.heap.size, NX)]) 1 hv25 ?_
          simp only [List.take, List.drop]
          repeat (first
            | go_big_quiet_skip
            | (go_big_quiet_want; apply Exists.intro; refine ⟨fun w' hw' => (by first | exact quietAt_part (off := 0) rfl rfl ty16 (hw'.at 0 rfl) HAa.out HAl.out | exact quietAt_part rfl rfl typfx (hw'.at 1 rfl) HP.out.all HP.out.len | exact quietAt_part rfl rfl typfx (hw'.at 2 rfl) HLO.out.all HLO.out.len | exact quietAt_part rfl rfl typfx (hw'.at 3 rfl) HNX.out.all HNX.out.len | exact quietAt_part rfl rfl typfx (hw'.at 4 rfl) HNX.out.all HNX.out.len | exact quietAt_part rfl rfl typfx (hw'.at 5 rfl) HNX.out.all HNX.out.len | fail), ?_⟩; simp only [Act.put, List.setIfInBounds_toArray, List.set_cons_zero, List.set_cons_succ]; go_big_quiet_on)
            | (go_big_quiet_want; go_big_quiet_op; go_big_quiet_on)
            | (go_big_quiet_want; go_big_quiet_op; apply Exists.intro; refine ⟨fun w' hw' => rfl, ?_⟩; go_big_quiet_on))
          refine wpQuiet_nil ?_
          intro v26 hv26
          have kv26 : Hid (KV w [(22, w.heap.size, bcells A), (24, g7, NX), (24, z8.heap.size, LO), (24, z8.heap.size + 1, NX), (24, v22.heap.size, NX), (24, v24.heap.size, NX)] (v26.setCells (g7) 0 NX)) := hv26.store 1 rfl NX (by rw [HNX.out.len, HP.out.len])
          have av26 := Lib.hid (hv26.at 1 rfl)
          have KE : Hid (KV w [(22, w.heap.size, bcells A), (24, g7, NX)] _) := kv26.out.pick [0, 1] (by decide) rfl (fun q hq => by simp at hq; rcases hq with rfl | rfl <;> rfl)
          go_wp2_with (first | refine wpList_store_v rfl 24 (.tmp 7) (.tmp 75) rfl _ rfl typfx av26.out HP.out.len NX HNX.out.len HNX.out.one rfl ?_ | fail)
          try simp only [Act.put]
          go_roundw
          case rel => exact ⟨k + 1, HLT.out, by rw [uk], by rw [← HNK.out]; exact KE⟩
          case measure => rw [uk]; exact net_meas HLT.out
      · obtain rfl : k = M := net_end' hk hlt
        obtain ⟨X, hX⟩ : ∃ X, X = keepB A k := ⟨_, rfl⟩
        obtain ⟨aX, e1, e2, e3, e4, e5, e6⟩ := net_end HV.out HA.out hX
        rw [← hX] at KK
        have HP := Lib.hid (pc_parts V (k : Nat) aX.len)
        have HZZ := Lib.hid (pc_parts 0 0 (X := zero16) rfl)
        have CHa : Hid (∀ w, Calls Tryd.prog 5 #[.agg (pcells V X (k : Nat)).toArray] w fun e w' => e = .returned (.tuple #[.agg (pcells 0 zero16 0).toArray, .agg (pcells 0 zero16 0).toArray, .bool false]) ∧ Below w.heap.size w w') := fun w => (phalves_any V X (k : Nat) w aX).mono fun e w' ⟨h1, h2⟩ => ⟨by rw [h1, e1, e2, e3], h2⟩
        have CLa : Hid (∀ w, Calls Tryd.prog 10 #[.agg (pcells V X (k : Nat)).toArray] w fun e w' => e = .returned (.agg (bcells X).toArray) ∧ Below w.heap.size w w') := fun w => (plast_any V X (k : Nat) w aX).mono fun e w' ⟨h1, h2⟩ => ⟨by rw [h1, e4], h2⟩
        have q1 : Hid (∀ w, (Op.equalIn 10000 22 (.agg (bcells X).toArray) (.agg (bcells X).toArray)).run Tryd.prog w = .ok true w) := fun w => by
          have h := same_nat Tryd.underlying22 X X aX.len aX.len w
          rw [decide_eq_true rfl] at h
          exact h
        have q4 : Hid (∀ w, (Op.equalIn 10000 35 (.agg (bcells (X.take 4)).toArray) (.agg (bcells (A.take 4)).toArray)).run Tryd.prog w = .ok true w) := fun w => by
          have h := same_nat Tryd.underlying35 (X.take 4) (A.take 4) (by rw [List.length_take, aX.len]; rfl) (by rw [List.length_take, HA.out.len]; rfl) w
          rw [decide_eq_true e5] at h
          exact h
        have q6 : Hid (V = 6 → ∀ w, (Op.equalIn 10000 22 (.agg (bcells X).toArray) (.agg (bcells A).toArray)).run Tryd.prog w = .ok true w) := fun hv6 w => by
          have h := same_nat Tryd.underlying22 X A aX.len HA.out.len w
          rw [decide_eq_true (e6 hv6)] at h
          exact h
        have HXl : Hid ((bcells X).length = 16) := by show _ = _; rw [bcells_length, aX.len]
        have HX4 : Hid ((bcells (X.take 4)).length = 4) := by show _ = _; rw [bcells_length, List.length_take, aX.len]; rfl
        have HA4 : Hid ((bcells (A.take 4)).length = 4) := by show _ = _; rw [bcells_length, List.length_take, HA.out.len]; rfl
        have HAt : Hid (((bcells A).drop 0).take 4 = bcells (A.take 4)) := by show _ = _; rw [List.drop_zero]; unfold bcells; rw [List.map_take]
        have HXt : Hid (((pcells V X (k : Nat)).drop 1).take 4 = bcells (X.take 4)) := by
          have h := HP.out.addr
          have h2 := congrArg (List.take 4) h
          rw [List.take_take] at h2
          show _ = _
          rw [show min 4 16 = 4 from rfl] at h2
          rw [h2]
          unfold bcells
          rw [List.map_take]
        obtain ⟨P, hPe⟩ : ∃ P, P = pcells V X (k : Nat) := ⟨_, rfl⟩
        obtain ⟨ZZ, hZZ⟩ : ∃ P, P = pcells 0 zero16 0 := ⟨_, rfl⟩
        rw [← hPe] at KK HP CHa CLa HXt
        rw [← hZZ] at HZZ CHa
        have HVC := Lib.hid HVB.out
        clear hX aX e1 e2 e3 e4 e5 e6 hPe hZZ hk hlt
        go_upto_region 18 with fail
        try simp only [Act.put]
        refine wp_region_lit ?_
        refine wpList_quiet_take (C := KV w [(22, w.heap.size, bcells A), (24, g7, P)]) 6 KK.out ?_
        simp only [List.take, List.drop]
        repeat (first
          | go_big_quiet_skip
          | (go_big_quiet_want; apply Exists.intro; refine ⟨fun w' hw' => (by first | exact quietAt_part (off := 0) rfl rfl ty16 (hw'.at 0 rfl) HAa.out HAl.out | exact quietAt_part rfl rfl typfx (hw'.at 1 rfl) HP.out.all HP.out.len | fail), ?_⟩; simp only [Act.put, List.setIfInBounds_toArray, List.set_cons_zero, List.set_cons_succ]; go_big_quiet_on)
          | (go_big_quiet_want; go_big_quiet_op; go_big_quiet_on)
          | (go_big_quiet_want; go_big_quiet_op; apply Exists.intro; refine ⟨fun w' hw' => (by first | (with_reducible refine (CHa.out w').mono ?_; rintro e w'' ⟨rfl, hb⟩; exact ⟨rfl, hw'.below hb⟩) | fail), ?_⟩; go_big_quiet_on)
          | (go_big_quiet_want; go_big_quiet_op; apply Exists.intro; refine ⟨fun w' hw' => rfl, ?_⟩; go_big_quiet_on))
        refine wpQuiet_nil ?_
        intro z18 hz18
        have m0 := Lib.hid (hz18.new2 24 24 (pcells 0 zero16 0) (pcells 0 zero16 0))
        have m1 := Lib.hid (m0.out.store 2 rfl ZZ (by rw [HZZ.out.len]; rfl))
        have kz18 : Hid (KV w [(22, w.heap.size, bcells A), (24, g7, P), (24, z18.heap.size, ZZ), (24, z18.heap.size + 1, ZZ)] ((((z18.alloc (.cells (pcells 0 zero16 0).toArray 24)).alloc (.cells (pcells 0 zero16 0).toArray 24)).setCells z18.heap.size 0 ZZ).setCells (z18.heap.size + 1) 0 ZZ)) := m1.out.store 3 rfl ZZ (by rw [HZZ.out.len]; rfl)
        have az18 := Lib.hid (m0.out.at 2 rfl)
        have bz18 := Lib.hid (m1.out.at 3 rfl)
        clear m0 m1
        clear hz18 KK
        rcases HVC.out with ⟨h1, h2, h3⟩ | ⟨h1, h2, h3⟩
        · subst h1 h2 h3
          go_upto_region 19 with (first | refine wpList_store_v rfl 24 (.tmp 15) (.tmp 79) rfl _ rfl typfx az18.out zero18_len ZZ HZZ.out.len HZZ.out.one rfl ?_ | refine wpList_store_v rfl 24 (.tmp 16) (.tmp 80) rfl _ rfl typfx bz18.out zero18_len ZZ HZZ.out.len HZZ.out.one rfl ?_ | fail)
          try simp only [Act.put]
          refine wp_quiet_kv (C := KV w [(22, w.heap.size, bcells A), (24, g7, P), (24, z18.heap.size, ZZ), (24, z18.heap.size + 1, ZZ)]) (by kernel_rfl) (by kernel_rfl) kz18.out.drew ?_
          repeat (first
            | go_big_quiet_skip
            | (go_big_quiet_want; apply Exists.intro; refine ⟨fun w' hw' => (by first | exact quietAt_part (off := 0) rfl rfl ty16 (hw'.at 0 rfl) HAa.out HAl.out | exact quietAt_part rfl rfl typfx (hw'.at 1 rfl) HP.out.all HP.out.len | exact quietAt_part rfl rfl typfx (hw'.at 2 rfl) HZZ.out.all HZZ.out.len | exact quietAt_part rfl rfl typfx (hw'.at 3 rfl) HZZ.out.all HZZ.out.len | exact quietAt_part (off := 1) rfl rfl ty16 (hw'.at 1 rfl) HP.out.addr HXl.out | exact quietAt_cell (j := 17) rfl rfl one_int (hw'.at 1 rfl) HP.out.n | exact quietAt_part (off := 1) rfl rfl ty4 (hw'.at 1 rfl) HXt.out HX4.out | exact quietAt_part (off := 0) rfl rfl ty4 (hw'.at 0 rfl) HAt.out HA4.out | (refine quietAt_run (v := .pointer (some ⟨g7, 1, none⟩)) ?_; simp [go_sem, net_at]; done) | (refine quietAt_run (v := .pointer (some ⟨w.heap.size, 0, none⟩)) ?_; simp [go_sem, net_at]; done) | exact quietAt_eql rfl rfl rfl guard16 q1.out | exact quietAt_eql rfl rfl rfl guard4n q4.out | exact quietAt_eql rfl rfl rfl guard16 (q6.out rfl) | fail), ?_⟩; simp only [Act.put, List.setIfInBounds_toArray, List.set_cons_zero, List.set_cons_succ]; go_big_quiet_on)
            | (go_big_quiet_want; go_big_quiet_op; go_big_quiet_on)
            | (go_big_quiet_want; go_big_quiet_op; apply Exists.intro; refine ⟨fun w' hw' => (by first | (with_reducible refine (CLa.out w').mono ?_; rintro e w'' ⟨rfl, hb⟩; exact ⟨rfl, hw'.below hb⟩) | fail), ?_⟩; go_big_quiet_on)
            | (go_big_quiet_want; go_big_quiet_op; apply Exists.intro; refine ⟨fun w' hw' => rfl, ?_⟩; go_big_quiet_on))
          refine wpQuiet_nil ?_
          intro v51 hv51
          have BB := Lib.hid hv51.bel
          clear hv51
          go_wp2_with fail
          go_ret
          exact ⟨by first | rfl | simp, BB.out⟩
        · subst h1 h2 h3
          go_upto_region 19 with (first | refine wpList_store_v rfl 24 (.tmp 15) (.tmp 79) rfl _ rfl typfx az18.out zero18_len ZZ HZZ.out.len HZZ.out.one rfl ?_ | refine wpList_store_v rfl 24 (.tmp 16) (.tmp 80) rfl _ rfl typfx bz18.out zero18_len ZZ HZZ.out.len HZZ.out.one rfl ?_ | fail)
          try simp only [Act.put]
          refine wp_quiet_kv (C := KV w [(22, w.heap.size, bcells A), (24, g7, P), (24, z18.heap.size, ZZ), (24, z18.heap.size + 1, ZZ)]) (by kernel_rfl) (by kernel_rfl) kz18.out.drew ?_
          repeat (first
            | go_big_quiet_skip
            | (go_big_quiet_want; apply Exists.intro; refine ⟨fun w' hw' => (by first | exact quietAt_part (off := 0) rfl rfl ty16 (hw'.at 0 rfl) HAa.out HAl.out | exact quietAt_part rfl rfl typfx (hw'.at 1 rfl) HP.out.all HP.out.len | exact quietAt_part rfl rfl typfx (hw'.at 2 rfl) HZZ.out.all HZZ.out.len | exact quietAt_part rfl rfl typfx (hw'.at 3 rfl) HZZ.out.all HZZ.out.len | exact quietAt_part (off := 1) rfl rfl ty16 (hw'.at 1 rfl) HP.out.addr HXl.out | exact quietAt_cell (j := 17) rfl rfl one_int (hw'.at 1 rfl) HP.out.n | exact quietAt_part (off := 1) rfl rfl ty4 (hw'.at 1 rfl) HXt.out HX4.out | exact quietAt_part (off := 0) rfl rfl ty4 (hw'.at 0 rfl) HAt.out HA4.out | (refine quietAt_run (v := .pointer (some ⟨g7, 1, none⟩)) ?_; simp [go_sem, net_at]; done) | (refine quietAt_run (v := .pointer (some ⟨w.heap.size, 0, none⟩)) ?_; simp [go_sem, net_at]; done) | exact quietAt_eql rfl rfl rfl guard16 q1.out | exact quietAt_eql rfl rfl rfl guard4n q4.out | fail), ?_⟩; simp only [Act.put, List.setIfInBounds_toArray, List.set_cons_zero, List.set_cons_succ]; go_big_quiet_on)
            | (go_big_quiet_want; go_big_quiet_op; go_big_quiet_on)
            | (go_big_quiet_want; go_big_quiet_op; apply Exists.intro; refine ⟨fun w' hw' => (by first | (with_reducible refine (CLa.out w').mono ?_; rintro e w'' ⟨rfl, hb⟩; exact ⟨rfl, hw'.below hb⟩) | fail), ?_⟩; go_big_quiet_on)
            | (go_big_quiet_want; go_big_quiet_op; apply Exists.intro; refine ⟨fun w' hw' => rfl, ?_⟩; go_big_quiet_on))
          refine wpQuiet_nil ?_
          intro v61 hv61
          have BB := Lib.hid hv61.bel
          clear hv61
          go_wp2_with fail
          go_ret
          exact ⟨by first | rfl | simp, BB.out⟩
theorem walk_WholeNets (zs0 : List Int) (b : Bool) (w : World) (hT : Six w) (hn0 : zs0.length = 16) (hz0 : ∀ z ∈ zs0, (Lit.int .u8 z).wf = true) :
    Calls Tryd.prog 3 #[.agg (zs0.map (Value.int .u8)).toArray, .bool b] w fun e w' => e = .returned (.bool true) ∧ Below w.heap.size w w' := by
  obtain ⟨X, hX, hl, hb⟩ := pf_bytes_of hz0
  rw [hX]
  have aX : Adr X := ⟨by rw [hl, hn0], hb⟩
  cases b
  · exact wnets false 4 32 X w (.inr ⟨rfl, rfl, rfl⟩) hT aX
  · exact wnets true 6 128 X w (.inl ⟨rfl, rfl, rfl⟩) hT aX
end Go.Proofs.YtaicmadeobglfaaDoor
