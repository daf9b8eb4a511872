/-
  The contract of fourhead's numbers.
  The contract of fourhead's Write.
-/
import Derived.Test.YtlopmkmcjcijcaaFh1
import Derived.IntWalk
import Derived.Test.YtlopmkmcjcijcaaApp
import Derived.Laws.BitsLemmas
namespace Go.Proofs.Ytlopmkmcjcijcaa
open Go.RowKit
set_option linter.unusedVariables false

/-- A header's fields as a value: nine numbers and eight bytes. -/
structure FourV where
  k0 : Int
  k1 : Int
  k2 : Int
  k3 : Int
  k4 : Int
  k5 : Int
  k6 : Int
  k7 : Int
  k8 : Int
  src : List Nat
  dst : List Nat
def FourV.ks (f : FourV) : List Int := [f.k0, f.k1, f.k2, f.k3, f.k4, f.k5, f.k6, f.k7, f.k8]
def fourLo : List Int := [5, 0, 0, 0, 0, 0, 0, 0, 0]
def fourHi : List Int := [15, 255, 65535, 65535, 7, 8191, 255, 255, 65535]
def FourV.nums (f : FourV) : List Value :=
  [.int .i64 f.k0, .int .i64 5, .int .i64 15, .int .i64 f.k1, .int .i64 0, .int .i64 255, .int .i64 f.k2, .int .i64 0, .int .i64 65535, .int .i64 f.k3, .int .i64 0, .int .i64 65535, .int .i64 f.k4, .int .i64 0, .int .i64 7, .int .i64 f.k5, .int .i64 0, .int .i64 8191,
    .int .i64 f.k6, .int .i64 0, .int .i64 255, .int .i64 f.k7, .int .i64 0, .int .i64 255, .int .i64 f.k8, .int .i64 0, .int .i64 65535]
theorem nums_zero (t : TypeId) : (List.replicate 27 (Value.int .i64 0)).length = 27 := rfl
theorem FourV.nums_one (f : FourV) : ∀ v ∈ f.nums, v.oneCell' = true := by
  intro v hv
  unfold FourV.nums at hv
  simp only [List.mem_cons, List.not_mem_nil, or_false] at hv
  rcases hv with h | h | h | h | h | h | h | h | h | h | h | h | h | h | h | h | h | h | h | h | h | h | h | h | h | h | h <;> rw [h] <;> rfl
def FourV.cells (f : FourV) : List Value := [.int .i64 f.k0, .int .i64 f.k1, .int .i64 f.k2, .int .i64 f.k3, .int .i64 f.k4, .int .i64 f.k5, .int .i64 f.k6, .int .i64 f.k7, .int .i64 f.k8] ++ bcells f.src ++ bcells f.dst
end Go.Proofs.Ytlopmkmcjcijcaa

namespace Go.Proofs.Ytlopmkmcjcijcaa
open Go.RowKit
set_option linter.unusedVariables false

def FourV.okAt (f : FourV) (k : Nat) : Prop := fourLo.getD k 0 ≤ f.ks.getD k 0 ∧ f.ks.getD k 0 ≤ fourHi.getD k 0
def FourV.fits (f : FourV) : Prop := ∀ k, k < 9 → f.okAt k
theorem FourV.fits_all {f : FourV} (h : f.fits) : (5 ≤ f.k0 ∧ f.k0 ≤ 15) ∧ (0 ≤ f.k1 ∧ f.k1 ≤ 255) ∧ (0 ≤ f.k2 ∧ f.k2 ≤ 65535) ∧ (0 ≤ f.k3 ∧ f.k3 ≤ 65535) ∧ (0 ≤ f.k4 ∧ f.k4 ≤ 7) ∧ (0 ≤ f.k5 ∧ f.k5 ≤ 8191) ∧ (0 ≤ f.k6 ∧ f.k6 ≤ 255) ∧ (0 ≤ f.k7 ∧ f.k7 ≤ 255) ∧ (0 ≤ f.k8 ∧ f.k8 ≤ 65535) :=
  ⟨h 0 (by decide), h 1 (by decide), h 2 (by decide), h 3 (by decide), h 4 (by decide), h 5 (by decide), h 6 (by decide), h 7 (by decide), h 8 (by decide)⟩
/-- A header's first twelve bytes. -/
def head12 (a0 a1 a2 a3 a4 a5 a6 a7 a8 : Nat) : List Nat := [64 + a0, a1, a2 / 256, a2 % 256, a3 / 256, a3 % 256, a4 * 32 + a5 / 256, a5 % 256, a6, a7, a8 / 256, a8 % 256]
def FourV.bytes (f : FourV) (os : List Nat) : List Nat := head12 f.k0.toNat f.k1.toNat f.k2.toNat f.k3.toNat f.k4.toNat f.k5.toNat f.k6.toNat f.k7.toNat f.k8.toNat ++ f.src ++ f.dst ++ os
def WriteIs (f : FourV) (n : Nat) (os : List Nat) (w : World) (e : Ending) (w' : World) : Prop :=
  Below w.heap.size w w' ∧ (¬ f.fits → e = .returned (.tuple #[.slice none 0 0, .int .i64 1])) ∧ (f.fits → (n : Int) ≠ 4 * f.k0 - 20 → e = .returned (.tuple #[.slice none 0 0, .int .i64 2])) ∧
    (f.fits → (n : Int) = 4 * f.k0 - 20 → ∃ v, e = .returned (.tuple #[v, .int .i64 0]) ∧ OutIs w.heap.size w' v (f.bytes os))
theorem i64_or_nat (x y : Nat) (hx : x < 2 ^ 31) (hy : y < 2 ^ 31) : bits .or .i64 (x : Int) (y : Int) = ((x ||| y : Nat) : Int) := by
  have key : (BitVec.ofInt 64 (x : Int) ||| BitVec.ofInt 64 (y : Int)).toNat = x ||| y := by
    rw [BitVec.toNat_or, BitVec.toNat_ofInt, BitVec.toNat_ofInt]
    congr 1 <;> omega
  have hlt : x ||| y < 2 ^ 31 := Nat.or_lt_two_pow hx hy
  show IntKind.i64.wrap ((BitVec.ofInt 64 (x : Int) ||| BitVec.ofInt 64 (y : Int)).toNat : Nat) = _
  rw [key, IntKind.wrap_i64]
  omega
theorem head_or (a : Nat) (h : a ≤ 15) : bits .or .i64 64 (a : Int) % 256 = ((64 + a : Nat) : Int) := by
  have h1 := i64_or_nat 64 a (by decide) (by omega)
  rw [nat_join 6 64 a (by decide) (by omega)] at h1
  have h2 : bits .or .i64 64 (a : Int) = ((64 + a : Nat) : Int) := h1
  rw [h2]
  omega
theorem flag_or (a b : Nat) (h : a ≤ 7) (h2 : b ≤ 8191) : bits .or .i64 (wrap64 ((a : Int) * 32)) ((b : Int) / 256) % 256 = ((a * 32 + b / 256 : Nat) : Int) := by
  have h1 := i64_or_nat (a * 32) (b / 256) (by omega) (by omega)
  rw [nat_join 5 (a * 32) (b / 256) (by omega) (by omega)] at h1
  have e1 : wrap64 ((a : Int) * 32) = ((a * 32 : Nat) : Int) := by unfold wrap64; omega
  have e2 : ((b : Int) / 256) = ((b / 256 : Nat) : Int) := by omega
  rw [e1, e2, h1]
  omega
theorem head_cells (a0 a1 a2 a3 a4 a5 a6 a7 a8 : Nat) (h : (a0 ≤ 15 ∧ 5 ≤ a0) ∧ a1 ≤ 255 ∧ a2 ≤ 65535 ∧ a3 ≤ 65535 ∧ a4 ≤ 7 ∧ a5 ≤ 8191 ∧ a6 ≤ 255 ∧ a7 ≤ 255 ∧ a8 ≤ 65535) :
    (#[Value.int .u8 (bits .or .i64 64 (a0 : Int) % 256), .int .u8 ((a1 : Int) % 256), .int .u8 ((a2 : Int) / 256 % 256), .int .u8 ((a2 : Int) % 256), .int .u8 ((a3 : Int) / 256 % 256), .int .u8 ((a3 : Int) % 256),
      .int .u8 (bits .or .i64 (wrap64 ((a4 : Int) * 32)) ((a5 : Int) / 256) % 256), .int .u8 ((a5 : Int) % 256), .int .u8 ((a6 : Int) % 256), .int .u8 ((a7 : Int) % 256), .int .u8 ((a8 : Int) / 256 % 256), .int .u8 ((a8 : Int) % 256)] : Array Value) = (bcells (head12 a0 a1 a2 a3 a4 a5 a6 a7 a8)).toArray := by
  rw [head_or a0 (by omega), flag_or a4 a5 (by omega) (by omega), show (a1 : Int) % 256 = ((a1 : Nat) : Int) by omega, show (a2 : Int) / 256 % 256 = ((a2 / 256 : Nat) : Int) by omega, show (a2 : Int) % 256 = ((a2 % 256 : Nat) : Int) by omega,
    show (a3 : Int) / 256 % 256 = ((a3 / 256 : Nat) : Int) by omega, show (a3 : Int) % 256 = ((a3 % 256 : Nat) : Int) by omega, show (a5 : Int) % 256 = ((a5 % 256 : Nat) : Int) by omega, show (a6 : Int) % 256 = ((a6 : Nat) : Int) by omega,
    show (a7 : Int) % 256 = ((a7 : Nat) : Int) by omega, show (a8 : Int) / 256 % 256 = ((a8 / 256 : Nat) : Int) by omega, show (a8 : Int) % 256 = ((a8 % 256 : Nat) : Int) by omega]
  rfl
theorem head12_byte (a0 a1 a2 a3 a4 a5 a6 a7 a8 : Nat) (h : (a0 ≤ 15 ∧ 5 ≤ a0) ∧ a1 ≤ 255 ∧ a2 ≤ 65535 ∧ a3 ≤ 65535 ∧ a4 ≤ 7 ∧ a5 ≤ 8191 ∧ a6 ≤ 255 ∧ a7 ≤ 255 ∧ a8 ≤ 65535) : ∀ x ∈ head12 a0 a1 a2 a3 a4 a5 a6 a7 a8, x < 256 := by
  unfold head12
  simp only [List.mem_cons, List.not_mem_nil, or_false]
  rintro x (h | h | h | h | h | h | h | h | h | h | h | h) <;> omega
theorem bcells_some {bs : List Nat} {i : Nat} (h : i < bs.length) : (bcells bs)[i]? = some (.int .u8 (bs.getD i 0 : Nat)) := by
  simp [bcells, h]
theorem FourV.at_src {f : FourV} (hs : f.src.length = 4) (i : Nat) (hi : i < 4) : f.cells[9 + i]? = some (.int .u8 (f.src.getD i 0 : Nat)) := by
  unfold FourV.cells
  rw [List.append_assoc, List.getElem?_append_right (by simp), List.getElem?_append_left (by rw [bcells_length]; simp; omega)]
  rw [show 9 + i - [Value.int .i64 f.k0, .int .i64 f.k1, .int .i64 f.k2, .int .i64 f.k3, .int .i64 f.k4, .int .i64 f.k5, .int .i64 f.k6, .int .i64 f.k7, .int .i64 f.k8].length = i from by show 9 + i - 9 = i; omega]
  exact bcells_some (by omega)
theorem FourV.at_dst {f : FourV} (hs : f.src.length = 4) (hd : f.dst.length = 4) (i : Nat) (hi : i < 4) : f.cells[13 + i]? = some (.int .u8 (f.dst.getD i 0 : Nat)) := by
  unfold FourV.cells
  rw [List.getElem?_append_right (by simp [bcells_length, hs])]
  rw [show 13 + i - ([Value.int .i64 f.k0, .int .i64 f.k1, .int .i64 f.k2, .int .i64 f.k3, .int .i64 f.k4, .int .i64 f.k5, .int .i64 f.k6, .int .i64 f.k7, .int .i64 f.k8] ++ bcells f.src).length = i from by rw [List.length_append, bcells_length, hs]; show 13 + i - 13 = i; omega]
  exact bcells_some (by omega)
end Go.Proofs.Ytlopmkmcjcijcaa
