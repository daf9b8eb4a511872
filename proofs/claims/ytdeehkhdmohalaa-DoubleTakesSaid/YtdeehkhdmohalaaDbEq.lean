/-
  Equality of levels of a meter.
-/
import Derived.Test.YtdeehkhdmohalaaMtLift
import Derived.Test.YtdeehkhdmohalaaKv
import Derived.DeepKeys
namespace Go.Proofs.Ytdeehkhdmohalaa
open Go.RowKit
set_option linter.unusedVariables false

theorem lit_u64k {n : Nat} (h : n ≤ 18446744073709551615) : (Lit.int .u64 (n : Int)).wf = true := by
  have h1 : IntKind.min .u64 ≤ (n : Int) := by show (0 : Int) ≤ _; omega
  have h2 : (n : Int) ≤ IntKind.max .u64 := by show _ ≤ (18446744073709551615 : Int); omega
  show (decide (IntKind.min .u64 ≤ (n : Int)) && decide ((n : Int) ≤ IntKind.max .u64)) = true
  rw [decide_eq_true h1, decide_eq_true h2]
  rfl
theorem key_u64k (d : Nat) {n : Nat} (h : n ≤ 18446744073709551615) : Try.prog.keyLits (d + 1) 22 [.int .u64 (n : Int)] = some [.int .u64 (n : Int)] := by
  unfold Program.keyLits
  rw [Try.underlying22]
  simp [lit_u64k h]
theorem key_boolk (d : Nat) (b : Bool) : Try.prog.keyLits (d + 1) 4 [.bool b] = some [.bool b] := by
  unfold Program.keyLits
  rw [Try.underlying4]
theorem cells_u64k : Try.prog.cellsOf 22 = 1 := by kernel_rfl
theorem cells_boolk : Try.prog.cellsOf 4 = 1 := by kernel_rfl
theorem tylevel : RowTy 26 4 := ⟨⟨_, Try.underlying26, rfl⟩, by kernel_rfl⟩
theorem tymeter : RowTy 24 6 := ⟨⟨_, Try.underlying24, rfl⟩, by kernel_rfl⟩
theorem key_level {s : Lv} (h : LvOk s) : Try.prog.keyLits 3 26 (lvC s) = some [.int .u64 (s.one : Nat), .int .u64 (s.two : Nat), .int .u64 (s.last : Nat), .bool s.seen] := by
  have k0 := key_u64k 1 h.one
  have k1 := key_u64k 1 h.two
  have k2 := key_u64k 1 h.last
  have k3 := key_boolk 1 s.seen
  unfold Program.keyLits lvC
  rw [Try.underlying26]
  simp [cells_level, cells_u64k, cells_boolk, k0, k1, k2, k3]
theorem guard_level : NoGuard 26 := guard_of _ (by kernel_rfl)
/-- Two levels: '==' tells whether they are one. -/
theorem level_eq {s t : Lv} (hs : LvOk s) (ht : LvOk t) (w : World) :
    ∃ r : Bool, (Op.equalIn 10000 26 (.agg (lvC s).toArray) (.agg (lvC t).toArray)).run Try.prog w = .ok r w ∧ (r = true ↔ lvC s = lvC t) := by
  have hf : ∀ s : Lv, (Value.agg (lvC s).toArray).formed Try.prog 26 = true := fun s => by simp [Value.formed, Try.underlying26, cells_level, lvC]
  obtain ⟨r, hr, hi⟩ := run_equalIn_deep (P := Try.prog) 9990 10 26 (by kernel_rfl) w 3 3 (.agg (lvC s).toArray) (.agg (lvC t).toArray) _ _ (hf s) (hf t) (by simpa [Value.cells] using key_level hs) (by simpa [Value.cells] using key_level ht)
  refine ⟨r, hr, hi.trans ⟨fun h => ?_, fun h => ?_⟩⟩
  · injection h with h0 h
    injection h with h1 h
    injection h with h2 h
    injection h with h3 _
    injection h0 with _ h0
    injection h1 with _ h1
    injection h2 with _ h2
    injection h3 with h3
    unfold lvC
    rw [h0, h1, h2, h3]
  · unfold lvC at h
    injection h with h0 h
    injection h with h1 h
    injection h with h2 h
    injection h with h3 _
    injection h0 with _ h0
    injection h1 with _ h1
    injection h2 with _ h2
    injection h3 with h3
    rw [h0, h1, h2, h3]
theorem level_same {s : Lv} (hs : LvOk s) (w : World) : (Op.equalIn 10000 26 (.agg (lvC s).toArray) (.agg (lvC s).toArray)).run Try.prog w = .ok true w := by
  obtain ⟨r, hr, hi⟩ := level_eq hs hs w
  rw [hi.2 rfl] at hr
  exact hr
end Go.Proofs.Ytdeehkhdmohalaa
