/-
  The contract of fourhead's option.
-/
import Derived.Test.YtlopmkmcjcijcaaFh3
import Derived.Test.YtlopmkmcjcijcaaOct3
import Derived.Test.YtlopmkmcjcijcaaExts
namespace Go.Proofs.Ytlopmkmcjcijcaa
open Go.RowKit
set_option linter.unusedVariables false

theorem res_cell_tmp2 {P : Program} {fn : Func} {p u u2 : Tmp} {ty : TypeId} {tmps : Array Value} {w : World} {a : Addr} {v x y : Value} (h : fn.results = #[.cell p ty, .tmp u, .tmp u2]) (hp : tmps.getD p undef = .pointer (some a))
    (hl : (Go.loadVar ty a).run P w = .ok v w) (hx : tmps.getD u undef = x) (hy : tmps.getD u2 undef = y) : (results fn tmps).run P w = .ok (.tuple #[v, x, y]) w := by
  subst hx hy
  simp only [results, h]
  have hq : tmps[p]?.getD undef = .pointer (some a) := by rw [← hp]; simp
  simp [Result.andThen, asAddr, hq, hl]
/-- The first option of some bytes: its kind, how many bytes it takes, and its body. -/
def optOne (l : List Nat) : Option (Nat × Nat × List Nat) :=
  if l.getD 0 0 = 1 then some (1, 1, []) else if l.length < 2 then none else if l.getD 1 0 < 2 ∨ l.length < l.getD 1 0 then none else some (l.getD 0 0, l.getD 1 0, (l.drop 2).take (l.getD 1 0 - 2))
/-- What option answers. -/
def OptIs (w : World) (r : Option (Nat × Nat × List Nat)) (e : Ending) (w' : World) : Prop :=
  Below w.heap.size w w' ∧ match r with
  | none => e = .returned (.tuple #[.agg #[.int .i64 0, .slice none 0 0], .int .i64 0, .bool false])
  | some (k, n, b) => ∃ bv, e = .returned (.tuple #[.agg #[.int .i64 (k : Nat), bv], .int .i64 (n : Nat), .bool true]) ∧ bv.oneCell' = true ∧ ∃ A c, bv = .slice A b.length c ∧ b.length ≤ c ∧ Row w' A b.length b ∧ ∀ ad, A = some ad → w.heap.size ≤ ad.block ∧ ad.block < w'.heap.size
theorem tyext : RowTy 45 2 := ⟨⟨_, Try.underlying45, rfl⟩, by kernel_rfl⟩
end Go.Proofs.Ytlopmkmcjcijcaa
