/-
  Contracts of fourhead's size, word, fields.
  The contract of fourhead's Read.
  What All tells of a header that Read refuses.
-/
import Derived.Test.YtlopmkmcjcijcaaOct1
import Derived.Test.YtlopmkmcjcijcaaArrV
import Derived.IntWalk
import Derived.Laws.BitsAllLaws
import Derived.Laws.BitsLemmas
import Derived.StillTailTactics
import Derived.Deep.CutRange
import Derived.Deep.CutBlock
namespace Go.Proofs.Ytlopmkmcjcijcaa
open Go.RowKit
set_option linter.unusedVariables false

theorem be_two (l : List Nat) (k : Nat) (h : k + 2 ≤ l.length) : be ((l.drop k).take 2) = l.getD k 0 * 256 + l.getD (k + 1) 0 := by
  have e : (l.drop k).take 2 = [l.getD k 0, l.getD (k + 1) 0] := by
    apply List.ext_getElem
    · simp; omega
    · intro i h1 h2
      simp at h2
      rcases (by omega : i = 0 ∨ i = 1) with rfl | rfl
      · simp [List.getD_eq_getElem?_getD, List.getElem?_eq_getElem (show k < l.length by omega)]
      · simp [List.getD_eq_getElem?_getD, List.getElem?_eq_getElem (show k + 1 < l.length by omega)]
  rw [e]
  simp [be]
def fhw (bs : List Nat) (k : Nat) : Nat := bs.getD k 0 * 256 + bs.getD (k + 1) 0
theorem fhw_lt {bs : List Nat} (h : ∀ k, bs.getD k 0 < 256) (k : Nat) : fhw bs k < 65536 := by
  have h1 := h k
  have h2 := h (k + 1)
  unfold fhw
  omega
theorem i64_and13 (v : Nat) (h : v < 65536) : bits .and .i64 (v : Int) 8191 = ((v % 8192 : Nat) : Int) := by
  have h13 : (BitVec.ofInt 64 8191).toNat = 2 ^ 13 - 1 := by decide
  have key : (BitVec.ofInt 64 (v : Int) &&& BitVec.ofInt 64 8191).toNat = ((v : Int) % ((2 ^ 64 : Nat) : Int)).toNat % 2 ^ 13 := by
    rw [BitVec.toNat_and, BitVec.toNat_ofInt, h13, Nat.and_two_pow_sub_one_eq_mod]
  show IntKind.i64.wrap ((BitVec.ofInt 64 (v : Int) &&& BitVec.ofInt 64 8191).toNat : Nat) = ((v % 8192 : Nat) : Int)
  rw [key, IntKind.wrap_i64]
  omega
theorem ArrV.stAll {t : TypeId} {W : World} {g : Nat} {cs : List Value} (h : ArrV t W g cs) (vs : List Value) (hl : vs.length = cs.length) (h1 : ∀ v ∈ vs, v.oneCell' = true) :
    (storeCells ⟨g, 0, none⟩ vs).run Try.prog W = .ok () (W.setCells g 0 vs) := by
  have h2 := run_storeCells_cells (P := Try.prog) g 0 vs 0 W (fun j hj => by have := (h.there j (by omega)).1; simpa using this) (fun j hj => by have := (h.there j (by omega)).2; simpa using this) h1
  simpa using h2
def fhz : List Value := List.replicate 9 (.int .i64 0) ++ List.replicate 8 (.int .u8 0)
/-- The fields of a header. -/
def fhf (bs : List Nat) : List Value :=
  [.int .i64 (bs.getD 0 0 % 16 : Nat), .int .i64 (bs.getD 1 0 : Nat), .int .i64 (fhw bs 2 : Nat), .int .i64 (fhw bs 4 : Nat), .int .i64 (bs.getD 6 0 / 32 : Nat), .int .i64 (fhw bs 6 % 8192 : Nat), .int .i64 (bs.getD 8 0 : Nat), .int .i64 (bs.getD 9 0 : Nat), .int .i64 (fhw bs 10 : Nat),
    .int .u8 (bs.getD 12 0 : Nat), .int .u8 (bs.getD 13 0 : Nat), .int .u8 (bs.getD 14 0 : Nat), .int .u8 (bs.getD 15 0 : Nat), .int .u8 (bs.getD 16 0 : Nat), .int .u8 (bs.getD 17 0 : Nat), .int .u8 (bs.getD 18 0 : Nat), .int .u8 (bs.getD 19 0 : Nat)]
end Go.Proofs.Ytlopmkmcjcijcaa

namespace Go.Proofs.Ytlopmkmcjcijcaa
open Go.RowKit
set_option linter.unusedVariables false

/-- What Read tells: the fields, and what is wrong. -/
def fhdef (n : Nat) (bs : List Nat) : Nat :=
  if n = 0 then 1 else if bs.getD 0 0 / 16 ≠ 4 then 2 else if n < 20 then 3 else if bs.getD 0 0 % 16 < 5 then 4 else if n < 4 * (bs.getD 0 0 % 16) then 5 else 0
def fhval (n : Nat) (bs : List Nat) : List Value := if fhdef n bs = 0 then fhf bs else fhz
theorem fhz_one : ∀ v ∈ fhz, v.oneCell' = true := by
  intro v hv
  simp [fhz] at hv
  rcases hv with rfl | rfl <;> rfl
theorem fhf_len (bs : List Nat) : (fhf bs).length = 17 := rfl
theorem fhf_one (bs : List Nat) : ∀ v ∈ fhf bs, v.oneCell' = true := by
  unfold fhf
  simp [Value.oneCell']
def ReadIs (n : Nat) (bs : List Nat) (w : World) (e : Ending) (w' : World) : Prop := e = .returned (.tuple #[.agg (fhval n bs).toArray, .int .i64 (fhdef n bs : Nat)]) ∧ Below w.heap.size w w'
end Go.Proofs.Ytlopmkmcjcijcaa

namespace Go.Proofs.Ytlopmkmcjcijcaa
open Go.RowKit
set_option linter.unusedVariables false

theorem fhval_len (n : Nat) (bs : List Nat) : (fhval n bs).length = 17 := by
  unfold fhval
  split <;> rfl
theorem fhval_one (n : Nat) (bs : List Nat) : ∀ v ∈ fhval n bs, v.oneCell' = true := by
  unfold fhval
  split
  · exact fhf_one bs
  · exact fhz_one
end Go.Proofs.Ytlopmkmcjcijcaa
