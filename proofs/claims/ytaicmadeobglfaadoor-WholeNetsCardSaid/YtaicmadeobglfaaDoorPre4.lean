/-
  The contracts of prefix's Within, Meet, Make, All.
-/
import Derived.Test.YtaicmadeobglfaaDoorPre3
namespace Go.Proofs.YtaicmadeobglfaaDoor
open Go.RowKit
set_option linter.unusedVariables false

/-- Whether all that has one prefix has another one. -/
def pwithin (V : Int) (X : List Nat) (n : Int) (V' : Int) (X' : List Nat) (n' : Int) : Bool := decide (pcheck V X n = 0) && (decide (n' ≤ n) && phas V' X' n' V X)
set_option maxRecDepth 10000 in
set_option maxHeartbeats 3200000 in
theorem pwithin_any (V : Int) (X : List Nat) (n V' : Int) (X' : List Nat) (n' : Int) (w : World) (hX : Adr X) (hX' : Adr X') : Calls Tryd.prog 9 #[.agg (pcells V X n).toArray, .agg (pcells V' X' n').toArray] w fun e w' => e = .returned (.bool (pwithin V X n V' X' n')) ∧ Below w.heap.size w w' := by
  have HP := Lib.hid (pc_parts V n hX.len)
  have HR := Lib.hid (pc_parts V' n' hX'.len)
  have hs16 : (bcells X).length = 16 := by rw [bcells_length, hX.len]
  have CC := Lib.hid (fun w => pcheck_any V X n w hX)
  have CH := Lib.hid (fun w => phas_any V' X' n' V X w hX' hX)
  obtain ⟨P, hP⟩ : ∃ P, P = pcells V X n := ⟨_, rfl⟩
  obtain ⟨R, hR⟩ : ∃ R, R = pcells V' X' n' := ⟨_, rfl⟩
  rw [← hP] at HP CC ⊢
  rw [← hR] at HR CH ⊢
  have K0 : Hid (KV w [(24, w.heap.size, P), (24, w.heap.size + 1, R)] ((w.alloc (.cells P.toArray 24)).alloc (.cells R.toArray 24))) := KV.two w _ _ _ _
  clear hP hR hX hX'
  by_cases hc : pcheck V X n = 0
  · by_cases hge : n' ≤ n
    · have HF : Hid (pwithin V X n V' X' n' = phas V' X' n' V X) := by show _ = _; unfold pwithin; simp [hc, hge]
      rw [hc] at CC
      clear hc
      generalize phas V' X' n' V X = bb at *
      go_enter Tryd.func9, Tryd.ntmps9
      go_upto_region 1 with fail
      refine wp_region_lit ?_
      refine wpList_quiet_all (C := KV w [(24, w.heap.size, P), (24, w.heap.size + 1, R)]) K0.out ?_
      repeat (first
        | go_big_quiet_skip
        | (go_big_quiet_want; apply Exists.intro; refine ⟨fun w' hw' => (by first | exact quietAt_part rfl rfl typfx (hw'.at 0 rfl) HP.out.all HP.out.len | exact quietAt_part rfl rfl typfx (hw'.at 1 rfl) HR.out.all HR.out.len | exact quietAt_cell rfl rfl one_int (hw'.at 0 rfl) HP.out.v | exact quietAt_cell rfl rfl one_int (hw'.at 0 rfl) HP.out.n | exact quietAt_cell rfl rfl one_int (hw'.at 1 rfl) HR.out.n | exact quietAt_part rfl rfl ty16 (hw'.at 0 rfl) HP.out.addr hs16 | fail), ?_⟩; simp only [Act.put, List.setIfInBounds_toArray, List.set_cons_zero, List.set_cons_succ]; go_big_quiet_on)
        | (go_big_quiet_want; go_big_quiet_op; go_big_quiet_on)
        | (go_big_quiet_want; go_big_quiet_op; apply Exists.intro; refine ⟨fun w' hw' => (by first | (with_reducible refine (CC.out w').mono ?_; rintro e w'' ⟨rfl, hb⟩; exact ⟨rfl, hw'.below hb⟩) | (with_reducible refine (CH.out w').mono ?_; rintro e w'' ⟨rfl, hb⟩; exact ⟨rfl, hw'.below hb⟩) | fail), ?_⟩; go_big_quiet_on)
        | (go_big_quiet_want; go_big_quiet_op; apply Exists.intro; refine ⟨fun w' hw' => rfl, ?_⟩; go_big_quiet_on))
      refine wpQuiet_nil ?_
      intro w1 hw1
      have BB := Lib.hid hw1.bel
      clear hw1 K0
      go_wp2_with fail
      go_ret
      exact ⟨by rw [HF.out]; rfl, BB.out⟩
    · have HF : Hid (pwithin V X n V' X' n' = false) := by show _ = _; unfold pwithin; simp [hge]
      rw [hc] at CC
      clear hc
      go_enter Tryd.func9, Tryd.ntmps9
      go_upto_region 1 with fail
      refine wp_region_lit ?_
      refine wpList_quiet_all (C := KV w [(24, w.heap.size, P), (24, w.heap.size + 1, R)]) K0.out ?_
      repeat (first
        | go_big_quiet_skip
        | (go_big_quiet_want; apply Exists.intro; refine ⟨fun w' hw' => (by first | exact quietAt_part rfl rfl typfx (hw'.at 0 rfl) HP.out.all HP.out.len | exact quietAt_part rfl rfl typfx (hw'.at 1 rfl) HR.out.all HR.out.len | exact quietAt_cell rfl rfl one_int (hw'.at 0 rfl) HP.out.v | exact quietAt_cell rfl rfl one_int (hw'.at 0 rfl) HP.out.n | exact quietAt_cell rfl rfl one_int (hw'.at 1 rfl) HR.out.n | exact quietAt_part rfl rfl ty16 (hw'.at 0 rfl) HP.out.addr hs16 | fail), ?_⟩; simp only [Act.put, List.setIfInBounds_toArray, List.set_cons_zero, List.set_cons_succ]; go_big_quiet_on)
        | (go_big_quiet_want; go_big_quiet_op; go_big_quiet_on)
        | (go_big_quiet_want; go_big_quiet_op; apply Exists.intro; refine ⟨fun w' hw' => (by first | (with_reducible refine (CC.out w').mono ?_; rintro e w'' ⟨rfl, hb⟩; exact ⟨rfl, hw'.below hb⟩) | fail), ?_⟩; go_big_quiet_on)
        | (go_big_quiet_want; go_big_quiet_op; apply Exists.intro; refine ⟨fun w' hw' => rfl, ?_⟩; go_big_quiet_on))
      refine wpQuiet_nil ?_
      intro w1 hw1
      have BB := Lib.hid hw1.bel
      clear hw1 K0
      go_wp2_with fail
      go_ret
      exact ⟨by rw [HF.out]; rfl, BB.out⟩
  · have HF : Hid (pwithin V X n V' X' n' = false) := by show _ = _; unfold pwithin; simp [hc]
    have hcb : (pcheck V X n == 0) = false := by simpa using hc
    clear hc
    generalize pcheck V X n = f at *
    go_enter Tryd.func9, Tryd.ntmps9
    go_upto_region 1 with fail
    refine wp_region_lit ?_
    refine wpList_quiet_all (C := KV w [(24, w.heap.size, P), (24, w.heap.size + 1, R)]) K0.out ?_
    repeat (first
      | go_big_quiet_skip
      | (go_big_quiet_want; apply Exists.intro; refine ⟨fun w' hw' => (by first | exact quietAt_part rfl rfl typfx (hw'.at 0 rfl) HP.out.all HP.out.len | exact quietAt_part rfl rfl typfx (hw'.at 1 rfl) HR.out.all HR.out.len | exact quietAt_cell rfl rfl one_int (hw'.at 0 rfl) HP.out.v | exact quietAt_cell rfl rfl one_int (hw'.at 0 rfl) HP.out.n | exact quietAt_cell rfl rfl one_int (hw'.at 1 rfl) HR.out.n | exact quietAt_part rfl rfl ty16 (hw'.at 0 rfl) HP.out.addr hs16 | fail), ?_⟩; simp only [Act.put, List.setIfInBounds_toArray, List.set_cons_zero, List.set_cons_succ]; go_big_quiet_on)
      | (go_big_quiet_want; go_big_quiet_op; go_big_quiet_on)
      | (go_big_quiet_want; go_big_quiet_op; apply Exists.intro; refine ⟨fun w' hw' => (by first | (with_reducible refine (CC.out w').mono ?_; rintro e w'' ⟨rfl, hb⟩; exact ⟨rfl, hw'.below hb⟩) | fail), ?_⟩; go_big_quiet_on)
      | (go_big_quiet_want; go_big_quiet_op; apply Exists.intro; refine ⟨fun w' hw' => rfl, ?_⟩; go_big_quiet_on))
    refine wpQuiet_nil ?_
    intro w1 hw1
    have BB := Lib.hid hw1.bel
    clear hw1 K0
    go_wp2_with fail
    go_ret
    exact ⟨by rw [HF.out]; rfl, BB.out⟩
/-- Whether any address has both. -/
def pmeet (V : Int) (X : List Nat) (n : Int) (V' : Int) (X' : List Nat) (n' : Int) : Bool := pwithin V X n V' X' n' || pwithin V' X' n' V X n
/-- A prefix is built of its parts. -/
theorem quietAt_pfx {C : World → Prop} {o : Oper} {a : Act} {W : World} {x y z : Operand} {V : Int} {X : List Nat} {n : Int} (ho : o.op = .build 24 #[(0, x), (1, y), (2, z)]) (hx : a.eval x = .int .i64 V) (hy : a.eval y = .agg (bcells X).toArray) (hz : a.eval z = .int .i64 n) (hX : X.length = 16) :
    Oper.quietAt Tryd.prog o a C W (.agg (pcells V X n).toArray) := by
  obtain ⟨k0, k1, k2, k3, k4, k5, k6, k7, k8, k9, k10, k11, k12, k13, k14, k15, rfl⟩ := split16 hX
  have hy' : a.eval y = .agg #[.int .u8 (k0 : Nat), .int .u8 (k1 : Nat), .int .u8 (k2 : Nat), .int .u8 (k3 : Nat), .int .u8 (k4 : Nat), .int .u8 (k5 : Nat), .int .u8 (k6 : Nat), .int .u8 (k7 : Nat), .int .u8 (k8 : Nat), .int .u8 (k9 : Nat), .int .u8 (k10 : Nat), .int .u8 (k11 : Nat), .int .u8 (k12 : Nat), .int .u8 (k13 : Nat), .int .u8 (k14 : Nat), .int .u8 (k15 : Nat)] := hy
  show Oper.quietAt Tryd.prog o a C W (.agg #[.int .i64 V, .int .u8 (k0 : Nat), .int .u8 (k1 : Nat), .int .u8 (k2 : Nat), .int .u8 (k3 : Nat), .int .u8 (k4 : Nat), .int .u8 (k5 : Nat), .int .u8 (k6 : Nat), .int .u8 (k7 : Nat), .int .u8 (k8 : Nat), .int .u8 (k9 : Nat), .int .u8 (k10 : Nat), .int .u8 (k11 : Nat), .int .u8 (k12 : Nat), .int .u8 (k13 : Nat), .int .u8 (k14 : Nat), .int .u8 (k15 : Nat), .int .i64 n])
  have hrun : (Instr.build 24 #[(0, .int .i64 V), (1, .agg #[.int .u8 (k0 : Nat), .int .u8 (k1 : Nat), .int .u8 (k2 : Nat), .int .u8 (k3 : Nat), .int .u8 (k4 : Nat), .int .u8 (k5 : Nat), .int .u8 (k6 : Nat), .int .u8 (k7 : Nat), .int .u8 (k8 : Nat), .int .u8 (k9 : Nat), .int .u8 (k10 : Nat), .int .u8 (k11 : Nat), .int .u8 (k12 : Nat), .int .u8 (k13 : Nat), .int .u8 (k14 : Nat), .int .u8 (k15 : Nat)]), (2, .int .i64 n)]).run Tryd.prog W = .ok (.agg #[.int .i64 V, .int .u8 (k0 : Nat), .int .u8 (k1 : Nat), .int .u8 (k2 : Nat), .int .u8 (k3 : Nat), .int .u8 (k4 : Nat), .int .u8 (k5 : Nat), .int .u8 (k6 : Nat), .int .u8 (k7 : Nat), .int .u8 (k8 : Nat), .int .u8 (k9 : Nat), .int .u8 (k10 : Nat), .int .u8 (k11 : Nat), .int .u8 (k12 : Nat), .int .u8 (k13 : Nat), .int .u8 (k14 : Nat), .int .u8 (k15 : Nat), .int .i64 n]) W := by simp [go_sem]
  unfold Oper.quietAt execOp
  simp only [ho, List.map_toArray, List.map_cons, List.map_nil, hx, hy', hz, Sem.run_bind, hrun, Result.andThen_ok, Sem.run_pure]
  exact ⟨rfl, rfl⟩
end Go.Proofs.YtaicmadeobglfaaDoor
