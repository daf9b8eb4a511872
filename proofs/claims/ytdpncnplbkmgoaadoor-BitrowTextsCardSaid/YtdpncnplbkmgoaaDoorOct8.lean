/-
  Contracts of octet.Unhex: the bytes of digits, or where something is wrong.
-/
import Derived.Test.YtdpncnplbkmgoaaDoorOct6
import Derived.Test.YtdpncnplbkmgoaaDoorOwn
import Derived.Handy
namespace Go.Proofs.YtdpncnplbkmgoaaDoor
open Go.RowKit
set_option linter.unusedVariables false
set_option maxRecDepth 10000

/-- A string's bytes. -/
def sb (s : ByteArray) : List Nat := s.data.toList.map UInt8.toNat
theorem sb_length (s : ByteArray) : (sb s).length = s.size := by simp [sb]
theorem sb_at (s : ByteArray) (k : Nat) (h : k < s.size) : (s[k]'h).toNat = (sb s).getD k 0 := by
  rw [List.getD_eq_getElem?_getD, List.getElem?_eq_getElem (by rw [sb_length]; exact h)]
  simp [sb]
  rfl
/-- The first k bytes are digits. -/
def Digits (s : ByteArray) (k : Nat) : Prop := ∀ j, j < k → hexv ((sb s).getD j 0) ≠ none
theorem digits_at {s : ByteArray} {i k : Nat} (h : Digits s i) (hk : k < i) (hs : k < s.size) : ∃ v, v < 16 ∧ Hid (hexv (s[k]'hs).toNat = some v) := by
  have h1 := h k hk
  cases hv : hexv ((sb s).getD k 0) with
  | none => exact absurd hv h1
  | some v => exact ⟨v, (dg_hexv hv).1, by rw [sb_at s k hs]; exact hv⟩

/-- The bytes that digits encode. -/
def unh (L : List Nat) (m : Nat) : List Nat := (List.range m).map fun k => (hexv (L.getD (2 * k) 0)).getD 0 * 16 + (hexv (L.getD (2 * k + 1) 0)).getD 0
theorem unh_length (L : List Nat) (m : Nat) : (unh L m).length = m := by simp [unh]
theorem unh_get (L : List Nat) (m k : Nat) (h : k < m) : (unh L m).getD k 0 = (hexv (L.getD (2 * k) 0)).getD 0 * 16 + (hexv (L.getD (2 * k + 1) 0)).getD 0 := by
  rw [List.getD_eq_getElem?_getD, List.getElem?_eq_getElem (by rw [unh_length]; exact h)]
  simp [unh]
theorem unh_byte (L : List Nat) (m : Nat) : ∀ x ∈ unh L m, x < 256 := by
  intro x hx
  simp only [unh, List.mem_map] at hx
  obtain ⟨k, _, rfl⟩ := hx
  have h : ∀ o : Nat, (hexv o).getD 0 < 16 := fun o => by
    cases ho : hexv o with
    | none => decide
    | some v => exact (dg_hexv ho).1
  have h1 := h (L.getD (2 * k) 0)
  have h2 := h (L.getD (2 * k + 1) 0)
  omega
theorem shl4_or (a b : Nat) (ha : a < 16) (hb : b < 16) : bits .or .u8 ((a : Int) * 16) (b : Int) = ((a * 16 + b : Nat) : Int) := by
  have h := u8_or_nat (a * 16) b (by omega) (by omega)
  rw [nat_join 4 (a * 16) b (by omega) (by omega)] at h
  simpa using h

/-- What stands while Unhex writes. -/
def UInv (w : World) (l : List Nat) (m k : Nat) (wr : World) : Prop :=
  Own wr (w.heap.size + 1) (splice (List.replicate m 0) 0 (l.take k)) ∧ wr.heap[w.heap.size]? = some (.cells #[.int .i64 0, .int .i64 0] 39 (0, 0)) ∧ Below w.heap.size w wr

end Go.Proofs.YtdpncnplbkmgoaaDoor
