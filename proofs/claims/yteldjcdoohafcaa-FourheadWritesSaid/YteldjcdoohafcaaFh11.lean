/-
  The contract of fourhead's numbers.
-/
import Derived.Test.YteldjcdoohafcaaFh3
import Derived.IntWalk
namespace Go.Proofs.Yteldjcdoohafcaa
open Go.RowKit
set_option linter.unusedVariables false

/-- A header's fields as a value: nine numbers and eight bytes. -/
structure FourV where
  k0 : Int
  k1 : Int
  k2 : Int
  k3 : Int
  k4 : Int
  k5 : Int
  k6 : Int
  k7 : Int
  k8 : Int
  src : List Nat
  dst : List Nat
def FourV.ks (f : FourV) : List Int := [f.k0, f.k1, f.k2, f.k3, f.k4, f.k5, f.k6, f.k7, f.k8]
def fourLo : List Int := [5, 0, 0, 0, 0, 0, 0, 0, 0]
def fourHi : List Int := [15, 255, 65535, 65535, 7, 8191, 255, 255, 65535]
def FourV.nums (f : FourV) : List Value :=
  [.int .i64 f.k0, .int .i64 5, .int .i64 15, .int .i64 f.k1, .int .i64 0, .int .i64 255, .int .i64 f.k2, .int .i64 0, .int .i64 65535, .int .i64 f.k3, .int .i64 0, .int .i64 65535, .int .i64 f.k4, .int .i64 0, .int .i64 7, .int .i64 f.k5, .int .i64 0, .int .i64 8191,
    .int .i64 f.k6, .int .i64 0, .int .i64 255, .int .i64 f.k7, .int .i64 0, .int .i64 255, .int .i64 f.k8, .int .i64 0, .int .i64 65535]
set_option maxRecDepth 10000 in
theorem idx9 (f : FourV) (k : Nat) (hk : k < 9) (w : World) : (Instr.index 84 (.agg f.nums.toArray) (.int .i64 (k : Int))).run Try.prog w = .ok (.agg #[.int .i64 (f.ks.getD k 0), .int .i64 (fourLo.getD k 0), .int .i64 (fourHi.getD k 0)]) w := by
  unfold FourV.nums FourV.ks fourLo fourHi
  match k, hk with
  | 0, _ => simp [Instr.index, run_underlying Try.underlying84, asIntOf, go_sem]
  | 1, _ => simp [Instr.index, run_underlying Try.underlying84, asIntOf, go_sem]
  | 2, _ => simp [Instr.index, run_underlying Try.underlying84, asIntOf, go_sem]
  | 3, _ => simp [Instr.index, run_underlying Try.underlying84, asIntOf, go_sem]
  | 4, _ => simp [Instr.index, run_underlying Try.underlying84, asIntOf, go_sem]
  | 5, _ => simp [Instr.index, run_underlying Try.underlying84, asIntOf, go_sem]
  | 6, _ => simp [Instr.index, run_underlying Try.underlying84, asIntOf, go_sem]
  | 7, _ => simp [Instr.index, run_underlying Try.underlying84, asIntOf, go_sem]
  | 8, _ => simp [Instr.index, run_underlying Try.underlying84, asIntOf, go_sem]
theorem tynums : RowTy 84 27 := ⟨⟨_, Try.underlying84, rfl⟩, by kernel_rfl⟩
theorem nums_zero (t : TypeId) : (List.replicate 27 (Value.int .i64 0)).length = 27 := rfl
theorem FourV.nums_one (f : FourV) : ∀ v ∈ f.nums, v.oneCell' = true := by
  intro v hv
  unfold FourV.nums at hv
  simp only [List.mem_cons, List.not_mem_nil, or_false] at hv
  rcases hv with h | h | h | h | h | h | h | h | h | h | h | h | h | h | h | h | h | h | h | h | h | h | h | h | h | h | h <;> rw [h] <;> rfl
def FourV.cells (f : FourV) : List Value := [.int .i64 f.k0, .int .i64 f.k1, .int .i64 f.k2, .int .i64 f.k3, .int .i64 f.k4, .int .i64 f.k5, .int .i64 f.k6, .int .i64 f.k7, .int .i64 f.k8] ++ bcells f.src ++ bcells f.dst
set_option maxRecDepth 10000 in
set_option maxHeartbeats 3200000 in
theorem fhnumbers_any (f : FourV) (w : World) : Calls Try.prog 59 #[.agg f.cells.toArray] w fun e w' => e = .returned (.agg f.nums.toArray) ∧ Below w.heap.size w w' := by
  obtain ⟨C, hC⟩ : ∃ C, C = f.cells := ⟨_, rfl⟩
  have g0 : Hid (C[0]? = some (.int .i64 f.k0) ∧ C[1]? = some (.int .i64 f.k1) ∧ C[2]? = some (.int .i64 f.k2) ∧ C[3]? = some (.int .i64 f.k3) ∧ C[4]? = some (.int .i64 f.k4) ∧ C[5]? = some (.int .i64 f.k5) ∧ C[6]? = some (.int .i64 f.k6) ∧ C[7]? = some (.int .i64 f.k7) ∧ C[8]? = some (.int .i64 f.k8)) := by
    rw [hC]
    exact ⟨rfl, rfl, rfl, rfl, rfl, rfl, rfl, rfl, rfl⟩
  rw [← hC]
  clear hC
  go_enter Try.func59, Try.ntmps59
  go_upto_region 1 with fail
  obtain ⟨V, eV⟩ : ∃ V, V = (w.alloc (.cells C.toArray 25)).alloc (.cells (List.replicate 27 (Value.int .i64 0)).toArray 84) := ⟨_, rfl⟩
  have hA : ArrV 25 V w.heap.size C := by rw [eV]; exact (ArrV.new _ w C).alloc _
  have HZ : Hid (ArrV 84 V (w.heap.size + 1) (List.replicate 27 (Value.int .i64 0))) := by
    show ArrV _ _ _ _
    rw [eV]
    have h := ArrV.new 84 (w.alloc (.cells C.toArray 25)) (List.replicate 27 (Value.int .i64 0))
    have e : (w.alloc (.cells C.toArray 25)).heap.size = w.heap.size + 1 := by simp
    rw [e] at h
    exact h
  have HB : Hid (Below w.heap.size w V) := by
    show Below _ _ _
    rw [eV]
    exact ((Below.refl _ _).alloc (Nat.le_refl _) _).alloc (by simp) _
  have e2 : V = (w.alloc (.cells C.toArray 25)).alloc (.cells #[.int .i64 0, .int .i64 0, .int .i64 0, .int .i64 0, .int .i64 0, .int .i64 0, .int .i64 0, .int .i64 0, .int .i64 0, .int .i64 0, .int .i64 0, .int .i64 0, .int .i64 0, .int .i64 0, .int .i64 0, .int .i64 0, .int .i64 0, .int .i64 0, .int .i64 0, .int .i64 0, .int .i64 0, .int .i64 0, .int .i64 0, .int .i64 0, .int .i64 0, .int .i64 0, .int .i64 0] 84) := eV
  rw [← e2]
  clear e2 eV
  have c0 := (hA.get 0).trans g0.out.1
  have c1 := (hA.get 1).trans g0.out.2.1
  have c2 := (hA.get 2).trans g0.out.2.2.1
  have c3 := (hA.get 3).trans g0.out.2.2.2.1
  have c4 := (hA.get 4).trans g0.out.2.2.2.2.1
  have c5 := (hA.get 5).trans g0.out.2.2.2.2.2.1
  have c6 := (hA.get 6).trans g0.out.2.2.2.2.2.2.1
  have c7 := (hA.get 7).trans g0.out.2.2.2.2.2.2.2.1
  have c8 := (hA.get 8).trans g0.out.2.2.2.2.2.2.2.2
  clear hA
  go_wp2_with (refine wpList_store_v rfl 84 (.tmp 2) (.tmp 30) rfl _ rfl tynums HZ.out rfl f.nums rfl f.nums_one rfl ?_)
  exact bodyPost_ret (v := .agg f.nums.toArray) (res_cell Try.results59 rfl ((HZ.out.store f.nums rfl).loadVar tynums rfl)) rfl ⟨rfl, setCells_below _ (Nat.le_succ _) _ _ _ HB.out⟩
end Go.Proofs.Yteldjcdoohafcaa
